/- Ld2 Ps2 Im4 in one text: what each says stands at its head below. -/
import Derived.Test.YtlmaopljihbdkaaGreatG46
import Derived.Test.YtlmaopljihbdkaaGreatG38
import Derived.Test.YtlmaopljihbdkaaGreatG45
import Derived.Test.YtlmaopljihbdkaaGreatG37
import Derived.Shelf.SlSortCmp.WholeK
namespace Go.Proofs.YtlmaopljihbdkaaGreat
open Go.RowKit Go.Maps
set_option maxHeartbeats 8000000 in
set_option maxRecDepth 4000 in
theorem storeInI {S : Nat → Prop} {w : World} {B n : Nat} {M : Int → List Int} (hs : SeenS S w B n M) (hS : ∀ b, S b → b < w.heap.size) (hw : ∀ a : Int, 0 ≤ a → a < 40 → wordsF (M a) = 0) :
    Calls Tryz.prog 52 #[.map (some B)] w fun e w' => ∃ y z, e = .returned (.agg #[.int .i64 (ldN M 0), .int .i64 (ldN M 1), .int .i64 (ldN M 2), .int .i64 (ldN M 3), y, z]) ∧ Below w.heap.size w w' ∧ IvR w.heap.size w'.heap.size w' y z (ldA M).sn (ldA M).lg := by
  have hBl := hs.lt
  obtain ⟨v2, hk2, hr2⟩ := hs.look (a := 2) (by omega) (by omega)
  have h64 := words_len (hw 2 (by omega) (by omega))
  have hr2' := hr2
  obtain ⟨a2, c2, rfl, hsrc2⟩ := hr2.src
  have hmk : ∀ w, (Instr.makeSlice 22 (.int .i64 5) (.int .i64 5)).run Tryz.prog w = .ok (.slice (some ⟨w.heap.size, 0, none⟩) 5 5) (w.alloc (.cells (madeCells #[.int .i64 0] 5) 2)) := run_make_row' (P := Tryz.prog) 22 2 (.int .i64 0) 8 Tryz.underlying22 Tryz.infoInt rfl .i64 .i64 5 (by omega) (by omega)
  simp only [made_rep] at hmk
  obtain ⟨Z, hZ⟩ : ∃ Z, List.replicate 5 (Value.int .i64 0) = Z := ⟨_, rfl⟩
  simp only [hZ] at hmk
  obtain ⟨X, hX⟩ : ∃ X, ((M 2).take 5).map (Value.int .i64) = X := ⟨_, rfl⟩
  have hRead : splice Z 0 X = [Value.int .i64 (ldN M 0), .int .i64 (ldN M 1), .int .i64 (ldN M 2), .int .i64 (ldN M 3), .int .i64 (ldN M 4)] := by
    have := splice_read (M 2) 0 5
    rw [List.drop_zero, hX, hZ, ldN_read] at this
    exact this
  have hXl : X.length = Nat.min (M 2).length 5 := by rw [← hX, List.length_map, List.length_take]; exact Nat.min_comm _ _
  have hXs : ∀ j u, X[j]? = some u → ((M 2).map (Value.int .i64))[j]? = some u := fun j u hj => by
    rw [← hX] at hj
    have h5 : j < 5 := by
      have := (List.getElem?_eq_some_iff.1 hj).1
      simp at this
      omega
    rw [List.getElem?_map, List.getElem?_take_of_lt h5] at hj
    rw [List.getElem?_map]
    exact hj
  have hX1 : ∀ v ∈ X, v.oneCell' = true := by rw [← hX]; exact ints_oneCell _ _
  have hZl : Z.length = 5 := by rw [← hZ]; simp
  obtain ⟨l2, hl2⟩ : ∃ l, (M 2).length = l := ⟨_, rfl⟩
  rw [hl2] at hsrc2 hXl hk2 h64
  have HSrc : Hid (0 < X.length → ∃ ad, a2 = some ad ∧ ∀ j v, X[j]? = some v → w.cell? (ad.add j) = some v) := fun h0 => by
    obtain ⟨ad, e, h⟩ := hsrc2 (by rw [hXl] at h0; have : Nat.min l2 5 ≤ l2 := Nat.min_le_left l2 5; omega)
    exact ⟨ad, e, fun j v hj => h j v (hXs j v hj)⟩
  have HRead := hide hRead
  have HS := hide hs
  have HW := hide hw
  have HSb := hide hS
  clear hsrc2 hRead hX hXs hZ hr2 hr2' hs hw hS
  go_enter Tryz.func52, Tryz.ntmps52
  go_upto_region 2 with fail
  obtain ⟨W1, hW1⟩ : ∃ W1, (w.alloc (.cells #[.int .i64 0, .int .i64 0, .int .i64 0, .int .i64 0, .slice none 0 0, .slice none 0 0] 33)).alloc (.cells Z.toArray 2) = W1 := ⟨_, rfl⟩
  have hb1 : Below w.heap.size w W1 := by rw [← hW1]; exact below_on (below_alloc _ _) (below_alloc _ _)
  have hg1 : W1.heap[w.heap.size + 1]? = some (.cells Z.toArray 2 (0, 0)) := by rw [← hW1]; have := heap_alloc_new (w.alloc (.cells #[.int .i64 0, .int .i64 0, .int .i64 0, .int .i64 0, .slice none 0 0, .slice none 0 0] 33)) (.cells Z.toArray 2); simpa using this
  have hR1 : Var6 W1 w.heap.size (.int .i64 0) (.int .i64 0) (.int .i64 0) (.int .i64 0) (.slice none 0 0) (.slice none 0 0) := by rw [← hW1]; exact (Var6_new w _ _ _ _ _ _ _).later (below_alloc _ _)
  have hF1 : ∀ o, W1.frozen? ⟨w.heap.size, o, none⟩ = false := fun o => by rw [← hW1]; simp [go_sem]
  have hs1 : W1.heap.size = w.heap.size + 2 := by rw [← hW1]; simp
  have hlk := hk2 W1 (hb1.block _ hBl)
  rw [hW1]
  clear hW1 hmk hk2
  have HB1 := hide hb1
  have HR1 := hide hR1
  have HF1 := hide hF1
  clear hb1 hR1 hF1
  have HSrc1 : Hid (0 < X.length → ∃ ad, a2 = some ad ∧ ∀ j v, X[j]? = some v → W1.cell? (ad.add j) = some v) := fun h0 => by
    obtain ⟨ad, e, h⟩ := HSrc.out h0
    exact ⟨ad, e, fun j v hj => (HB1.out.cell (p := ad.add j) (World.block_lt_of_cell? _ _ (h j v hj))).trans (h j v hj)⟩
  obtain ⟨w3, hrun, hg3, hb3, hq3⟩ := copy_runA (dLen := 5) (dCap := 5) (sCap := c2) hg1 hXl HSrc1.out (by rw [hXl, hZl]; exact Nat.min_le_right _ _) hX1
  go_upto_region 3 with fail
  have hz3 := hb3.size
  have hB3 := HB1.out.trans (hb3.mono (by omega))
  have hk3 : Ku (fun b => w.heap.size + 1 ≤ b) W1 w3 := ⟨hb3.os, hb3.tape, hb3.output, hb3.size, fun k _ hd => hb3.block k (by omega)⟩
  have hR3 := HR1.out.ku hk3 (by omega)
  have hF3 : ∀ o, w3.frozen? ⟨w.heap.size, o, none⟩ = false := fun o => (hk3.frozen (by omega) (by omega)).trans (HF1.out o)
  rw [HRead.out] at hg3
  have m0 : w3.cell? ⟨w.heap.size + 1, 0, none⟩ = some (.int .i64 (ldN M 0)) := by simp [World.cell?, hg3]
  have m1 : w3.cell? ⟨w.heap.size + 1, 1, none⟩ = some (.int .i64 (ldN M 1)) := by simp [World.cell?, hg3]
  have m2 : w3.cell? ⟨w.heap.size + 1, 2, none⟩ = some (.int .i64 (ldN M 2)) := by simp [World.cell?, hg3]
  have m3 : w3.cell? ⟨w.heap.size + 1, 3, none⟩ = some (.int .i64 (ldN M 3)) := by simp [World.cell?, hg3]
  have m4 : w3.cell? ⟨w.heap.size + 1, 4, none⟩ = some (.int .i64 (ldN M 4)) := by simp [World.cell?, hg3]
  have hz3' : w3.heap.size = w.heap.size + 2 := hq3.trans hs1
  have HB3 := hide hB3
  have HR3 := hide hR3
  have HF3 := hide hF3
  have HM4 := hide m4
  clear hg3 hb3 hz3 hB3 hR3 hF3 hk3 hrun hlk hg1 hs1 hq3 HB1 HR1 HF1 HSrc1 HSrc HRead hXl hX1 hZl h64 hl2 m4
  obtain ⟨q0, hq0⟩ : ∃ q, ldN M 0 = q := ⟨_, rfl⟩
  obtain ⟨q1, hq1⟩ : ∃ q, ldN M 1 = q := ⟨_, rfl⟩
  obtain ⟨q2, hq2⟩ : ∃ q, ldN M 2 = q := ⟨_, rfl⟩
  obtain ⟨q3, hq3⟩ : ∃ q, ldN M 3 = q := ⟨_, rfl⟩
  go_region_held3 (fun w' => w'.cell? ⟨w.heap.size + 1, 0, none⟩ = some (.int .i64 (ldN M 0)) ∧ w'.cell? ⟨w.heap.size + 1, 1, none⟩ = some (.int .i64 (ldN M 1)) ∧ w'.cell? ⟨w.heap.size + 1, 2, none⟩ = some (.int .i64 (ldN M 2)) ∧ w'.cell? ⟨w.heap.size + 1, 3, none⟩ = some (.int .i64 (ldN M 3))) (first | exact ⟨m0, m1, m2, m3⟩ | exact ⟨cell_later (below_drewN _ _) m0, cell_later (below_drewN _ _) m1, cell_later (below_drewN _ _) m2, cell_later (below_drewN _ _) m3⟩ | exact ⟨cell_later (below_on (below_drewN _ _) (below_alloc _ _)) m0, cell_later (below_on (below_drewN _ _) (below_alloc _ _)) m1, cell_later (below_on (below_drewN _ _) (below_alloc _ _)) m2, cell_later (below_on (below_drewN _ _) (below_alloc _ _)) m3⟩) (fail)
  obtain ⟨W4, hW4⟩ : ∃ W4, (w3.alloc (.cells #[.int .i64 q0, .int .i64 q1, .int .i64 q2, .int .i64 q3, .slice none 0 0, .slice none 0 0] 33)).drew = W4 := ⟨_, rfl⟩
  have hb4 : Below w3.heap.size w3 W4 := by rw [← hW4]; exact below_on (below_alloc _ _) (below_drewN _ 1)
  have hz4 : W4.heap.size = w.heap.size + 3 := by rw [← hW4]; simp; omega
  have HSt : Hid (StI M w.heap.size w W4 (.slice none 0 0) (.slice none 0 0)) := by
    refine ⟨below_on HB3.out hb4, HR3.out.later hb4, fun o => ((bcell hb4).2 _ _ (by omega)).trans (HF3.out o), cell_later hb4 HM4.out, ?_, fun o => ?_⟩
    · rw [← hW4, hq0, hq1, hq2, hq3, ← hz3']
      exact (Var6_new w3 _ _ _ _ _ _ _).later (below_drewN _ 1)
    · rw [← hW4, ← hz3']; simp [go_sem]
  have HS4 := hide (HS.out.later HSt.out.below)
  obtain ⟨v1, hk1, hr1⟩ := HS4.out.look (a := 1) (by omega) (by omega)
  have hlk1 := hk1 W4 rfl
  obtain ⟨a1, c1, hv1⟩ := hr1.shape
  obtain ⟨l1, hl1⟩ : ∃ l, (M 1).length = l := ⟨_, rfl⟩
  rw [hl1] at hv1
  subst hv1
  have HUd := hide (implUnpackDir hr1)
  obtain ⟨hbl, hbb⟩ := ld_blocks (HW.out 1 (by omega) (by omega))
  obtain ⟨fs, hfs⟩ : ∃ fs, udR (M 1) = fs := ⟨_, rfl⟩
  have HFs := hide hfs
  rw [hfs] at HUd hbl hbb
  have HBb := hide hbb
  rw [hW4]
  clear hW4 hb4 HB3 HR3 HF3 HM4 m0 m1 m2 m3 hk1 hr1 hl1 hfs hbb hz3'
  go_wp2_with fail
  refine HUd.out.mono ?_
  rintro e w5 ⟨z5, rfl, hb5, ho5⟩
  obtain ⟨az, cz, rfl⟩ := ho5.shape
  obtain ⟨_, _, _, hnm⟩ := ho5.rd.shape
  have hz5 := hb5.size
  have HSt5 := hide (HSt.out.later hb5)
  have HS5 := hide (HS4.out.later hb5)
  have HRd := hide ho5.rd
  obtain ⟨nf, hnf⟩ : ∃ n, fs.length = n := ⟨_, rfl⟩
  have HNf := hide hnf
  rw [hnf] at HRd hnm ⊢
  have hM64 : Hid (∀ x, x ∈ blksF fs → (M x).length ≤ 64) := fun x hx => words_len (HW.out x (HBb.out x hx).1 (HBb.out x hx).2)
  obtain ⟨i0, hi, hz0, hz1, hz2⟩ := info_parts Tryz.infoInt
  clear hb5 ho5 hnf HSt HS4 HUd hlk1 HS
  have hfd : ∀ (x : Value) (w : World), (Instr.field 139 (.agg #[x, .slice az nf cz]) 1).run Tryz.prog w = .ok (.slice az nf cz) w := fun x w => by
    simp [Instr.field, run_underlying Tryz.underlying139, asAgg, part, isAgg, run_underlying Tryz.underlying111]
  go_wp2_with fail
  go_loopw [34] (fun i wr => ∃ (k j : Nat) (y : Value), k ≤ nf ∧ i = .int .i64 k ∧ Hid (StI M w.heap.size w wr y (.slice none 0 0)) ∧ Hid (Ku (fun b => b = w.heap.size + 2 ∨ w5.heap.size ≤ b) w5 wr) ∧ Hid ((ldF M fs k 0).length = j) ∧ Hid (wr.ownsRow w5.heap.size 2 1 y j ((ldF M fs k 0).map (Value.int .i64)))) (fun i _ => nf - (intOf i).toNat)
  case atStart => exact ⟨0, 0, _, Nat.zero_le _, rfl, HSt5.out, Ku.refl _ _, by rw [ldF_zero]; rfl, by rw [ldF_zero]; exact World.ownsRow_nil _ _ _ _⟩
  case round =>
    clear HSt5
    obtain ⟨k, j, y, hk, rfl, HSt, HKu, HJ, HRow⟩ := hrel
    by_cases hlt : k < nf
    · obtain ⟨b, off, rfl, hbS, yb, c0, c1, c2, gy⟩ := HRd.out.fileS (k := k) (by rw [HNf.out]; exact hlt)
      have hbn : ¬ (b = w.heap.size + 2 ∨ w5.heap.size ≤ b) := by omega
      have g0 := HKu.out.cell c0 hbn
      have g1 := HKu.out.cell c1 hbn
      have g2 := HKu.out.cell c2 hbn
      obtain ⟨ab, cb, rfl⟩ := gy.shape
      obtain ⟨p, hp⟩ : ∃ p, fs.getD k oj0 = p := ⟨_, rfl⟩
      have HP := hide hp
      rw [hp] at g0 g1 g2 gy
      obtain ⟨m, hm⟩ : ∃ m, p.2.2.length = m := ⟨_, rfl⟩
      have HM := hide hm
      have HGy := hide gy
      rw [hm] at g2 HGy
      have hk1 : (k : Int) < (nf : Int) := by omega
      have hm9 : m ≤ 9223372036854775807 := by rw [← hm]; exact gy.maxR
      clear hbS c0 c1 c2 gy hp hm hbn
      go_upto_region 7 with fail
      obtain ⟨WA, hWA⟩ : ∃ WA, wr.alloc (.cells #[.int .i64 p.1, .int .i64 p.2.1, .slice ab m cb] 114) = WA := ⟨_, rfl⟩
      have hbA : Below wr.heap.size wr WA := by rw [← hWA]; exact below_alloc _ _
      have q2 : WA.cell? ⟨wr.heap.size, 2, none⟩ = some (.slice ab m cb) := by rw [← hWA]; simp [go_sem]
      have HStA := hide (HSt.out.later hbA)
      have HKuA := hide (HKu.out.trans (Ku.of_below hbA))
      have HRowA := hide (ownsRow_later HRow.out hbA)
      rw [hWA]
      clear hWA hbA g0 g1 g2 HSt HKu HRow
      go_wp2_with fail
      go_loopw [41] (fun i wr => ∃ (j2 q : Nat) (y : Value), j2 ≤ m ∧ i = .int .i64 j2 ∧ Hid (StI M w.heap.size w wr y (.slice none 0 0)) ∧ Hid (Ku (fun b => b = w.heap.size + 2 ∨ w5.heap.size ≤ b) w5 wr) ∧ Hid ((ldF M fs k j2).length = q) ∧ Hid (wr.ownsRow w5.heap.size 2 1 y q ((ldF M fs k j2).map (Value.int .i64)))) (fun i _ => m - (intOf i).toNat)
      case atStart => exact ⟨0, j, y, Nat.zero_le _, rfl, HStA.out, HKuA.out, HJ.out, HRowA.out⟩
      case round =>
        clear HStA HKuA HRowA HJ q2
        obtain ⟨j2, q, y, hj2, rfl, HSt, HKu, HJ, HRow⟩ := hrel
        by_cases hlt2 : j2 < m
        · have hjm : j2 < p.2.2.length := by rw [HM.out]; exact hlt2
          have hx := HBb.out _ (by have := blks_at (fs := fs) (k := k) (j := j2) (by rw [HNf.out]; exact hlt) (by rw [HP.out]; exact hjm); rw [HP.out] at this; exact this)
          obtain ⟨bb, ob, rfl, e0⟩ := (HGy.out.ku HKu.out (fun _ b hb => by omega)).at (k := j2) hjm
          have HSw := hide (HS5.out.ku HKu.out (by omega) (fun b hb => by have := HSb.out b hb; omega))
          have hst := ldF_step (M := M) (fs := fs) (k := k) (j := j2) (by rw [HP.out]; exact hjm)
          rw [HP.out] at hst
          have hmost := ldF_most (M := M) hbl hM64.out k (j2 + 1) (by rw [HNf.out]; exact hlt)
          rw [hst, List.length_append, HJ.out] at hmost
          obtain ⟨x, hxx⟩ : ∃ x, p.2.2.getD j2 0 = x := ⟨_, rfl⟩
          rw [hxx] at e0 hx hst hmost
          obtain ⟨vx, hkx, hrx⟩ := HSw.out.look hx.1 hx.2
          obtain ⟨ax, cx, rfl, hsx⟩ := hrx.src
          have hlk := hkx wr rfl
          obtain ⟨lx, hlx⟩ : ∃ l, (M x).length = l := ⟨_, rfl⟩
          have HLx := hide hlx
          rw [hlx] at hlk hsx hmost
          have HSx := hide hsx
          obtain ⟨v0, v1, v2, v3, v4, v5⟩ := HSt.out.v
          have HStp := hide hst
          have hl := HSt.out.lt
          have hz' := HKu.out.size
          have hj1 : (j2 : Int) < (m : Int) := by omega
          clear v0 v1 v2 v3 v5 hkx hrx hlx hst hsx hxx
          go_wp2_with (at_builtin; refine wpList_append_any _ rfl _ _ 22 rfl w5.heap.size 2 i0 (.int .i64 0) 1 8 Tryz.underlying22 hi hz0 hz1 hz2 rfl (by decide) y q _ (by rfl) HRow.out ax lx cx ((M x).map (Value.int .i64)) (by rfl) (by simp [HLx.out]) HSx.out (ints_oneCell _ _) (by unfold maxLen; omega) (by omega) (by omega) ?_; intro y2 w7 hown hgrow; obtain ⟨ay2, cy2, rfl⟩ := owns_shapeR hown; have hgk := Ku.of_grown hgrow; have hs7 := HSt.out.ku hgk (fun b hb => by have := (HRow.out.lt b hb).1; omega); obtain ⟨w0, w1, w2, w3', w4', w5'⟩ := hs7.v; have f4 := hs7.fr 4; clear w0 w1 w2 w3' w5')
          have hrow8 := ownsRow_ku hown (set_ku (b := w.heap.size + 2) (o := 4) (x := .slice ay2 (q + lx) cy2)) (fun r hr e => by have := (hown.lt r hr).1; omega)
          have HSt8 := hide (hs7.set4 (.slice ay2 (q + lx) cy2))
          have HKu8 := hide ((HKu.out.trans (hgk.mono (fun b hb => .inr (HRow.out.lt b hb).1))).trans ((set_ku (b := w.heap.size + 2) (o := 4) (x := .slice ay2 (q + lx) cy2)).mono (fun b hb => .inl hb)))
          rw [← List.map_append, ← HStp.out] at hrow8
          have HRow8 := hide hrow8
          have HJ8 : Hid ((ldF M fs k (j2 + 1)).length = q + lx) := by rw [Hid, HStp.out, List.length_append, HJ.out, HLx.out]
          clear hown hgrow hgk hs7 hrow8
          go_wp2
          go_roundw
          case rel => exact ⟨j2 + 1, q + lx, _, hlt2, by go_num, HSt8.out, HKu8.out, HJ8.out, HRow8.out⟩
          case measure => simp [intOf]; omega
        · have hjm : j2 = m := by omega
          subst hjm
          have hnl : ¬ (j2 : Int) < (j2 : Int) := by omega
          have hnx := ldF_next (M := M) (fs := fs) (k := k) (by rw [HNf.out]; exact hlt)
          rw [HP.out, HM.out] at hnx
          rw [hnx] at HJ HRow
          clear hnx
          go_wp2
          go_roundw
          case rel => exact ⟨k + 1, q, y, hlt, by go_num, HSt.out, HKu.out, HJ.out, HRow.out⟩
          case measure => simp [intOf]; omega
    · have hkn : k = nf := by omega
      subst hkn
      have hnl : ¬ (k : Int) < (k : Int) := by omega
      have hE : ldF M fs k 0 = (ldB M).flatMap M := by rw [← HNf.out, ldF_all]; unfold ldB; rw [HFs.out]
      rw [hE] at HJ HRow
      have hjm : j ≤ 4096 := by
        have h1 := ldF_len (M := M) (blksF fs) hM64.out
        have e : ldB M = blksF fs := by unfold ldB; rw [HFs.out]
        have h2 := HJ.out
        rw [e] at h2
        omega
      have hq4 := words_at (HW.out 2 (by omega) (by omega)) 4
      have hb2 : 0 ≤ ldN M 2 ∧ ldN M 2 ≤ 65535 := words_at (HW.out 2 (by omega) (by omega)) 2
      have c4 := HSt.out.c4
      have hK : Hid ((ldK M : Int) = if ldN M 4 < 14 then ldN M 4 else 14) := by
        unfold Hid ldK
        have : 0 ≤ ldN M 4 := hq4.1
        split <;> omega
      obtain ⟨q4, hq4e⟩ : ∃ q, ldN M 4 = q := ⟨_, rfl⟩
      rw [hq4e] at c4 hK
      have hq4' : 0 ≤ q4 := by rw [← hq4e]; exact hq4.1
      obtain ⟨K, hKe⟩ : ∃ K, ldK M = K := ⟨_, rfl⟩
      rw [hKe] at hK
      have HKe := hide hKe
      have HSm := HS5
      clear HS5 hfd hE HRd HJ hq4 hq4e hKe hbl
      go_wp2_with fail
      have hmin : min q4 14 = (K : Int) := by rw [hK.out]; split <;> omega
      rw [hmin]
      have hK14 : K ≤ 14 := by have := hK.out; split at this <;> omega
      have HBn : Hid (BuiltEn (wr.heap.size ≤ ·) wr (.slice none 0 0) (ldE M 0).length (ldE M K)) := BuiltEn.nil _ _ _
      have HMp := hide (fun (W : World) (hb : Ku (fun b => b = w.heap.size + 2 ∨ w5.heap.size ≤ b) w5 W) => HSm.out.ku hb (by omega) (fun b hb => by have := HSb.out b hb; omega))
      have hz8 := HKu.out.size
      obtain ⟨w8, hw8⟩ : ∃ w8, w8 = wr := ⟨_, rfl⟩
      subst hw8
      have HKu0 := HKu
      obtain ⟨i1, hi', hz0', hz1', hz2'⟩ := info_parts Tryz.infoEn
      have hfd : ∀ (x y : Value) (w : World), (Instr.field 142 (.agg #[x, y]) 1).run Tryz.prog w = .ok y w := Tryz.fldIr1
      have hfe : ∀ (x : Value) (a : Option Addr) (n c : Nat) (w : World), (Instr.field 145 (.agg #[x, .slice a n c]) 1).run Tryz.prog w = .ok (.slice a n c) w := fun x a n c w => by
        simp [Instr.field, run_underlying Tryz.underlying145, asAgg, part, isAgg, run_underlying Tryz.underlying31]
      clear hmin hK c4 hq4' hnl HBb hM64 hi hz0 hz1 hz2
      go_loopw [58] (fun v wr => ∃ (i : Nat) (z : Value), i ≤ K ∧ v = .int .i64 i ∧ Hid (StI M w.heap.size w wr y z) ∧ Hid (Ku (fun b => b = w.heap.size + 2 ∨ w8.heap.size ≤ b) w8 wr) ∧ Hid (BuiltEn (w8.heap.size ≤ ·) wr z (ldE M i).length (ldE M K))) (fun v _ => K - (intOf v).toNat)
      case atStart => exact ⟨0, _, Nat.zero_le _, rfl, HSt.out, Ku.refl _ _, HBn.out⟩
      case round =>
        clear HSt HKu HBn
        obtain ⟨i, z, hiK, rfl, HSt, HKu, HBu⟩ := hrel
        by_cases hlt : i < K
        · obtain ⟨s2, hs2⟩ : ∃ q, ldN M 2 = q := ⟨_, rfl⟩
          obtain ⟨v0, v1, v2, v3, v4, v5⟩ := HSt.out.v
          rw [hs2] at v2 hb2
          have hi1 : (i : Int) < (K : Int) := by omega
          have e1 : IntKind.i64.wrap (s2 + 1) = s2 + 1 := by simp [IntKind.wrap, IntKind.bits, IntKind.signed]; omega
          have e2 : IntKind.i64.wrap (s2 + 1 + (i : Int)) = s2 + 1 + (i : Int) := by simp [IntKind.wrap, IntKind.bits, IntKind.signed]; omega
          have hroom := sfV_room (s2 + 1 + (i : Int))
          have hW : ldW M i = M (sfV (s2 + 1 + (i : Int))) := by unfold ldW; rw [hs2]
          obtain ⟨sl, hsl⟩ : ∃ q, sfV (s2 + 1 + (i : Int)) = q := ⟨_, rfl⟩
          have HSl := hide hsl
          rw [hsl] at hroom hW
          have HHW := hide hW
          clear v0 v1 v3 v4 hsl hW
          go_wp2_with fail
          refine (implSlotFor (s2 + 1 + (i : Int)) wr).mono ?_
          rintro e w9 ⟨rfl, hb9⟩
          rw [HSl.out]
          have HB9 := hide hb9
          have HSt9 := hide (HSt.out.later hb9)
          have HKu9 := hide (HKu.out.trans (Ku.of_below hb9))
          have HBu9 := hide (HBu.out.later hb9)
          have hKz := HKu9.out.size
          have HS9 := hide (HMp.out w9 (HKu0.out.trans (HKu9.out.mono (fun b hb => by omega))))
          obtain ⟨vx, hkx, hrx⟩ := HS9.out.look hroom.1 hroom.2
          obtain ⟨ax, cx, rfl⟩ := hrx.shape
          obtain ⟨lx, hlx⟩ : ∃ l, (M sl).length = l := ⟨_, rfl⟩
          have HUe := hide (implUnpackEntry (hrx.later (below_drewN w9 1)))
          rw [hlx] at hkx HUe
          have hlk0 := hkx w9 rfl
          have hlk1 := hkx w9.drew rfl
          have hlkN : ∀ q, (Instr.lookup 93 (.map (some B)) (.int .i64 sl) false).run Tryz.prog (w9.drewN q) = .ok (.slice ax lx cx) (w9.drewN q) := fun q => hkx _ rfl
          obtain ⟨az2, cz2, hzs⟩ := HBu9.out.shape
          obtain ⟨cnt, hcnt⟩ : ∃ n, (ldE M i).length = n := ⟨_, rfl⟩
          have hcm := ldE_len M i
          rw [hcnt] at HBu9 hzs hcm
          subst hzs
          have HCnt := hide hcnt
          obtain ⟨V, Bk, hrow, hpr, hin⟩ := HBu9.out
          have HRowz := hide hrow
          have HPr := hide hpr
          have HIn := hide hin
          obtain ⟨w0, w1, w2, w3', w4', v5⟩ := HSt9.out.v
          have f5 := HSt9.out.fr 5
          have hl9 := HSt9.out.lt
          have hsuc := ldE_succ M i
          rw [HHW.out] at hsuc
          have HSuc := hide hsuc
          clear w0 w1 w2 w3' w4' hb9 hkx hrx hlx hrow hpr hin hcnt hsuc HBu v2 HB9 HS9
          go_upto_region 17 with fail
          rcases ue_two (M sl) with hue | hue
          · rw [hue] at HUe
            go_region_law (first
              | (go_simp; go_at_call 100; refine HUe.out.mono ?_; rintro e w10 ⟨z10, rfl, hb10, ho10⟩; obtain ⟨a10, c10, rfl⟩ := ho10.shape; have hbd := below_on (below_drewN w9 1) hb10; have s5 := cell_later hbd v5; have g5 := ((bcell hbd).2 (w.heap.size + 2) 5 hl9).trans f5; have HBd := hide hbd; clear hb10 ho10 hbd)
              | (refine step_append_zeroE _ (by rfl) _ _ _ (by rfl) 0 110 i1 3 Tryz.underlying31 hi' _ cnt _ (by rfl) (ownsRow_later HRowz.out HBd.out) a10 c10 (by rfl) ?_))
            all_goals
              have hset := set_ku (w := w10) (b := w.heap.size + 2) (o := 5) (x := .slice az2 cnt cz2)
              have HSt10 := hide ((HSt9.out.later HBd.out).set5 (.slice az2 cnt cz2))
              have HKu10 := hide ((HKu9.out.trans (Ku.of_below HBd.out)).trans (hset.mono (fun b hb => .inl hb)))
              have HBu10 := hide ((HBu9.out.later HBd.out).ku hset (fun b hb e => by omega))
              have hcn : (ldE M (i + 1)).length = cnt := by rw [HSuc.out, hue, List.append_nil, HCnt.out]
              have HCn := hide hcn
              clear hset s5 g5 hcn
              go_wp2
              go_roundw
              case rel => exact ⟨i + 1, _, hlt, by go_num, HSt10.out, HKu10.out, by rw [HCn.out]; exact HBu10.out⟩
              case measure => simp [intOf]; omega
          · rw [hue] at HUe
            obtain ⟨en, hen⟩ : ∃ e, enO (M sl) = e := ⟨_, rfl⟩
            rw [hen] at HUe hue
            have hat0 := ldE_at (M := M) hlt (by rw [HHW.out]; exact hue)
            rw [HCnt.out] at hat0
            have HAt := hide hat0
            clear hat0
            go_region_law (first
              | (go_simp; go_at_call 100; refine HUe.out.mono ?_; rintro e w10 ⟨z10, rfl, hb10, ho10⟩; obtain ⟨a10, c10, rfl⟩ := ho10.shape; obtain ⟨b10, o10, av10, cv10, rfl, hnw, how⟩ := ho10.one; have hbd := below_on (below_drewN w9 1) hb10; have s5 := cell_later hbd v5; have g5 := ((bcell hbd).2 (w.heap.size + 2) 5 hl9).trans f5; have HBd := hide hbd; have HNw := hide hnw; have HOw := hide how; clear hb10 ho10 hbd hnw how)
              | (refine step_append_lies _ (by rfl) _ _ _ (by rfl) 0 110 i1 (.agg #[.int .i64 0, .int .i64 0, .slice none 0 0]) 3 40 Tryz.underlying31 hi' hz0' hz1' hz2' rfl (by omega) _ cnt _ (by rfl) (ownsRow_later HRowz.out HBd.out) ⟨b10, o10, none⟩ 1 c10 [.int .i64 en.1, .int .i64 en.2.1, .slice av10 en.2.2.length cv10] (by rfl) (by rfl) HNw.out cellsEn_one (by omega) (by unfold maxLen; omega) (by omega) (Nat.zero_le _) w10.heap.size rfl ?_; intro g cap w11 hown hgrow hat hlt11; have hk11 := (Ku.of_below (D := fun b => (Value.slice az2 cnt cz2).ownBlock = some b) HBd.out).trans (Ku.of_grown hgrow); have hst11 := HSt9.out.ku hk11 (fun b hb => by have := HPr.out b hb; omega); obtain ⟨t0, t1, t2, t3, t4, t5⟩ := hst11.v; have g11 := hst11.fr 5; clear t0 t1 t2 t3 t4 s5 g5))
            all_goals
              have hrow12 := hown
              have hset := set_ku (w := w11) (b := w.heap.size + 2) (o := 5) (x := .slice (some ⟨g, 0, none⟩) (cnt + 1) cap)
              have HSt12 := hide (hst11.set5 (.slice (some ⟨g, 0, none⟩) (cnt + 1) cap))
              have HKu12 := hide ((HKu9.out.trans (hk11.mono (fun b hb => .inr (HPr.out b hb)))).trans (hset.mono (fun b hb => .inl hb)))
              have HBu12 := hide ((BuiltEn.step (P' := (w8.heap.size ≤ ·)) HIn.out HRowz.out HPr.out (fun _ h => h) (fun b hb => Nat.le_trans hKz hb) HBd.out (by rw [HAt.out]; exact HOw.out) (Below.refl _ _) (by rw [HAt.out]; exact hown) hgrow hat).ku hset (fun b hb e => by omega))
              have hcn : (ldE M (i + 1)).length = cnt + 1 := by rw [HSuc.out, hue, List.length_append, HCnt.out]; rfl
              have HCn := hide hcn
              clear hset hrow12 hown hgrow hat hlt11 hk11 hst11 t5 g11 hcn
              go_wp2
              go_roundw
              case rel => exact ⟨i + 1, _, hlt, by go_num, HSt12.out, HKu12.out, by rw [HCn.out]; exact HBu12.out⟩
              case measure => simp [intOf]; omega
        · have hin : i = K := by omega
          subst hin
          have hnl : ¬ (i : Int) < (i : Int) := by omega
          have hst := HSt.out
          obtain ⟨v0, v1, v2, v3, v4, v5⟩ := hst.v
          obtain ⟨r0, r1, r2, r3, r4, r5⟩ := hst.r
          have f0 := hst.rf 0
          have f1 := hst.rf 1
          have f2 := hst.rf 2
          have f3 := hst.rf 3
          have f4 := hst.rf 4
          have f5 := hst.rf 5
          have hrowy := ownsRow_ku HRow.out HKu.out (fun r hr => by have := HRow.out.lt r hr; omega)
          obtain ⟨ay, cy, rfl⟩ := owns_shapeR hrowy
          obtain ⟨az2, cz2, rfl⟩ := HBu.out.shape
          have HA : Hid ((ldA M).sn = (ldB M).flatMap M ∧ (ldA M).lg = ldE M i) := ⟨rfl, by show ldE M (ldK M) = _; rw [HKe.out]⟩
          have hiv := IvR_two HRow.out (by omega) HKu.out (fun b h1 h2 e => by omega) hz8 (HBu.out.ow rfl (by have := ldE_len M i; omega))
          obtain ⟨l9, hl9⟩ : ∃ l, (ldE M i).length = l := ⟨_, rfl⟩
          rw [hl9] at v5 hiv
          rw [← HA.out.1, ← HA.out.2] at hiv
          have hlt5 : w.heap.size < w5.heap.size := by omega
          have HFn := hide (ret_raft6 (x0 := .int .i64 (ldN M 0)) (x1 := .int .i64 (ldN M 1)) (x2 := .int .i64 (ldN M 2)) (x3 := .int .i64 (ldN M 3)) hst.below (Nat.le_refl _) hiv hlt5)
          rw [hq0, hq1, hq2, hq3] at HFn
          clear hst HSt HBu hrowy HRow hiv HMp HSm HKu HKu0 hl9
          go_wp2
          refine bodyPost_ret (v := .agg #[.int .i64 q0, .int .i64 q1, .int .i64 q2, .int .i64 q3, .slice ay j cy, .slice az2 l9 cz2]) (by simp [results, Tryz.results52, go_sem, r0, r1, r2, r3, r4, r5]) rfl ⟨_, _, rfl, HFn.out.1, HFn.out.2⟩
end Go.Proofs.YtlmaopljihbdkaaGreat
namespace Go.Proofs.YtlmaopljihbdkaaGreat
open Go.RowKit Go.Maps Go.Shelf Go.Sort
end Go.Proofs.YtlmaopljihbdkaaGreat
namespace Go.Proofs.YtlmaopljihbdkaaGreat
open Go.RowKit Go.Shelf
def imP (r : Rf) : List (Int × List Int) := viewTo (lkP (stP r)) 40
theorem st_len {r : Rf} (h : rfF r = 0) : (stP r).length ≤ 40 ∧ stP r ≠ [] := by
  have hr := rfF_iff.1 h
  have h1 := (sbL_some (daF_len hr.da)).1
  have h2 := (logF_iff.1 hr.lo).1
  have h3 : (flP r).length ≤ 2 := by unfold flP; split <;> simp
  refine ⟨?_, by simp [stP, meP]⟩
  simp only [stP, List.length_append, snP_len]
  simp only [meP, enP, List.length_map, List.length_cons, List.length_nil]
  omega
theorem RdJ.inw {S : Nat → Prop} {w : World} {v : Value} {ts : List Oj} (h : RdJ S w v ts) : RdJ (fun b => S b ∧ b < w.heap.size) w v ts := by
  obtain ⟨ao, c, e1, e2, e3⟩ := h
  refine ⟨ao, c, e1, e2, fun hne => ?_⟩
  obtain ⟨b, off, V, f1, f2, f3⟩ := e3 hne
  have h0 : 0 < ts.length := by cases ts; exact absurd rfl hne; simp
  exact ⟨b, off, V, f1, ⟨f2, World.block_lt_of_cell? _ _ (f3 0 h0).1⟩, fun i hi => ⟨(f3 i hi).1, (f3 i hi).2.1, (f3 i hi).2.2.1, (f3 i hi).2.2.2.inw⟩⟩
set_option maxHeartbeats 2000000 in
set_option maxRecDepth 4000 in
theorem storeBlocksM (a b c d : Int) (ay : Option Addr) (l cy : Nat) (az : Option Addr) (m cz : Nat) (w : World) :
    Calls Tryz.prog 39 #[.agg #[.int .i64 a, .int .i64 b, .int .i64 c, .int .i64 d, .slice ay l cy, .slice az m cz]] w fun e w' => e = .returned (.func (.func 83) #[] #[.pointer (some ⟨w.heap.size, 0, none⟩)]) ∧ w' = w.alloc (.cells #[.int .i64 a, .int .i64 b, .int .i64 c, .int .i64 d, .slice ay l cy, .slice az m cz] 33) := by
  go_enter Tryz.func39, Tryz.ntmps39
  go_wp2
  go_ret
  exact ⟨rfl, rfl⟩
end Go.Proofs.YtlmaopljihbdkaaGreat
