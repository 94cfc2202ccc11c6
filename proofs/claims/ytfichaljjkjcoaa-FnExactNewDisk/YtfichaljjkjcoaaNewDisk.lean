/- 'impl.NewDisk' and 'spec.NewDisk' walked, and the law over them. -/
import Derived.Test.YtfichaljjkjcoaaEq
import Derived.Test.YtfichaljjkjcoaaMark
import Derived.Test.YtfichaljjkjcoaaHeld
import Derived.Test.YtfichaljjkjcoaaTo
import Derived.Test.YtfichaljjkjcoaaFault
import Derived.Deep.OwnRows
namespace Go.Proofs.Ytfichaljjkjcoaa
open Go.RowKit

/-- n nil rows at the head of a block that was just made. -/
theorem made_rows (w : World) (n : Nat) (hn : n ≤ 9223372036854775807) (e : TypeId) : OwII (· = w.heap.size) (w.alloc (.cells (madeCells #[.slice none 0 0] n) e)) (.slice (some ⟨w.heap.size, 0, none⟩) n n) (List.replicate n []) := by
  refine ⟨_, n, w.heap.size, 0, fun _ => .slice none 0 0, fun _ => 0, by simp, by simpa using hn, fun _ => ⟨rfl, rfl⟩, fun i hi => ?_⟩
  have hi' : i < n := by simpa using hi
  have e1 : (List.replicate n ([] : List Int)).getD i [] = [] := by simp [List.getD, hi']
  rw [e1]
  refine ⟨?_, ⟨none, 0, by simp, by simp, fun h => absurd rfl h⟩, fun h => absurd rfl h⟩
  have := (World.rowIs_made w (.slice none 0 0) n e).cell hi'
  simpa using this

theorem OwP_nil (S : Nat → Prop) (w : World) : OwP S w (.slice none 0 0) [] :=
  ⟨none, 0, 0, 0, fun _ => .bool false, fun _ => 0, by simp, by simp, fun h => absurd rfl h, fun i hi => absurd hi (Nat.not_lt_zero _)⟩
theorem OwII_nil (S : Nat → Prop) (w : World) : OwII S w (.slice none 0 0) [] :=
  ⟨none, 0, 0, 0, fun _ => .bool false, fun _ => 0, by simp, by simp, fun h => absurd rfl h, fun i hi => absurd hi (Nat.not_lt_zero _)⟩

theorem implNew_yes (n : Nat) (hn : n ≤ 70) (w : World) :
    Calls Try.prog 19 #[.int .i64 (n : Int)] w fun e w' => ∃ u, e = .returned (.agg #[.int .i64 0, u, .slice none 0 0]) ∧ Below w.heap.size w w' ∧ OwII (fun b => w.heap.size ≤ b ∧ b < w'.heap.size) w' u (List.replicate n []) := by
  have hmk := run_make_row' (P := Try.prog) 24 28 (.slice none 0 0) 24 Try.underlying24 Try.infoInts rfl .i64 .i64 n (by omega) (by omega)
  go_enter Try.func19, Try.ntmps19
  go_wp2
  refine bodyPost_ret (v := .agg #[.int .i64 0, .slice (some ⟨w.heap.size + 1, 0, none⟩) n n, .slice none 0 0]) (by simp [results, Try.results19, go_sem]) rfl ⟨_, rfl, below_on (below_alloc _ _) (below_alloc _ _), ?_⟩
  have h := made_rows (w.alloc (.cells #[.int .i64 0, .slice (some ⟨w.heap.size + 1, 0, none⟩) n n, .slice none 0 0] 32)) n (by omega) 28
  simp only [World.size_alloc] at h
  exact h.mono fun b hb => by subst hb; simp

theorem implNew_no (s : Int) (hs : s < 0 ∨ 70 < s) (w : World) :
    Calls Try.prog 19 #[.int .i64 s] w fun e w' => e = .returned (.agg #[.int .i64 3, .slice none 0 0, .slice none 0 0]) ∧ Below w.heap.size w w' := by
  by_cases h : s < 0
  · go_enter Try.func19, Try.ntmps19
    go_wp2
    exact bodyPost_ret (v := .agg #[.int .i64 3, .slice none 0 0, .slice none 0 0]) (by simp [results, Try.results19, go_sem]) rfl ⟨rfl, below_alloc _ _⟩
  · have h' : 70 < s := by omega
    clear hs
    go_enter Try.func19, Try.ntmps19
    go_wp2
    exact bodyPost_ret (v := .agg #[.int .i64 3, .slice none 0 0, .slice none 0 0]) (by simp [results, Try.results19, go_sem]) rfl ⟨rfl, below_alloc _ _⟩

theorem l1New (n : Nat) (hn : n ≤ 70) (w : World) :
    Calls Try.prog 66 #[.int .i64 (n : Int)] w fun e w' => ∃ u, e = .returned (.agg #[u, .slice none 0 0]) ∧ Below w.heap.size w w' ∧ OwII (fun b => w.heap.size ≤ b ∧ b < w'.heap.size) w' u (List.replicate n []) := by
  have hmk := run_make_row' (P := Try.prog) 24 28 (.slice none 0 0) 24 Try.underlying24 Try.infoInts rfl .i64 .i64 n (by omega) (by omega)
  go_enter Try.func66, Try.ntmps66
  go_wp2
  refine bodyPost_ret (v := .agg #[.slice (some ⟨w.heap.size + 1, 0, none⟩) n n, .slice none 0 0]) (by simp [results, Try.results66, go_sem]) rfl ⟨_, rfl, below_on (below_alloc _ _) (below_alloc _ _), ?_⟩
  have h := made_rows (w.alloc (.cells #[.slice (some ⟨w.heap.size + 1, 0, none⟩) n n, .slice none 0 0] 27)) n (by omega) 28
  simp only [World.size_alloc] at h
  exact h.mono fun b hb => by subst hb; simp

theorem specNew_no (s : Int) (hs : s < 0 ∨ 70 < s) (w : World) :
    Calls Try.prog 26 #[.int .i64 s] w fun e w' => e = .returned (.agg #[.int .i64 3, .slice none 0 0, .slice none 0 0]) ∧ Below w.heap.size w w' := by
  have HS := hide hs
  clear hs
  go_enter Try.func26, Try.ntmps26
  go_wp2_with fail
  refine (l1In_no _ _ _ HS.out _).mono ?_
  rintro e w' ⟨rfl, rfl⟩
  go_wp2
  exact bodyPost_ret (v := .agg #[.int .i64 3, .slice none 0 0, .slice none 0 0]) (by simp [results, Try.results26, go_sem]) rfl ⟨rfl, below_alloc _ _⟩

theorem specNew_yes (n : Nat) (hn : n ≤ 70) (w : World) :
    Calls Try.prog 26 #[.int .i64 (n : Int)] w fun e w' => ∃ u, e = .returned (.agg #[.int .i64 0, u, .slice none 0 0]) ∧ Below w.heap.size w w' ∧ OwII (fun b => w.heap.size ≤ b ∧ b < w'.heap.size) w' u (List.replicate n []) := by
  go_enter Try.func26, Try.ntmps26
  go_wp2_with fail
  refine (l1In_yes _ _ _ (by omega) (by omega) _).mono ?_
  rintro e w' ⟨rfl, rfl⟩
  go_wp2_with fail
  refine (l1New n hn _).mono ?_
  rintro e w1 ⟨u, rfl, hb, ho⟩
  obtain ⟨hc, hf⟩ := bcell hb
  have HB := hide hb
  have HO := hide ho
  have hz := hb.size
  obtain ⟨ao, c, rfl⟩ := ho.shape
  clear hb ho
  go_wp2
  refine bodyPost_ret (v := .agg #[.int .i64 0, .slice ao (List.replicate n ([] : List Int)).length c, .slice none 0 0]) (by simp [results, Try.results26, go_sem, hc]) rfl ⟨_, rfl, ?_, ?_⟩
  · exact (((below_on (below_alloc _ _) HB.out).setCell (Nat.le_refl _) _).setCell (Nat.le_refl _) _).setCell (Nat.le_refl _) _
  · refine (HO.out.wr (T := (· = w.heap.size)) (Wr.setCell (p := ⟨w.heap.size, 2, none⟩) (Wr.setCell (p := ⟨w.heap.size, 1, none⟩) (Wr.setCell (p := ⟨w.heap.size, 0, none⟩) (Wr.refl (fun x => x = w.heap.size) _) rfl _) rfl _) rfl _) (fun b hb e => by simp at hb; omega)).mono fun b hb => ?_
    simp at hb ⊢
    omega

/-- Three cells of a variable. -/
def Var3 (w : World) (b : Nat) (x y z : Value) : Prop := w.cell? ⟨b, 0, none⟩ = some x ∧ w.cell? ⟨b, 1, none⟩ = some y ∧ w.cell? ⟨b, 2, none⟩ = some z

theorem Var3.later {w w' : World} {b : Nat} {x y z : Value} (h : Var3 w b x y z) (hb : Below w.heap.size w w') : Var3 w' b x y z :=
  ⟨cell_later hb h.1, cell_later hb h.2.1, cell_later hb h.2.2⟩
theorem Var3.wr {S : Nat → Prop} {w w' : World} {b : Nat} {x y z : Value} (h : Var3 w b x y z) (hb : Wr S w w') (hd : ¬ S b) : Var3 w' b x y z :=
  ⟨cell_wr hb h.1 hd, cell_wr hb h.2.1 hd, cell_wr hb h.2.2 hd⟩
theorem Var3.lt {w : World} {b : Nat} {x y z : Value} (h : Var3 w b x y z) : b < w.heap.size := World.block_lt_of_cell? _ _ h.1
theorem Var3_new (w : World) (x y z : Value) (t : TypeId) : Var3 (w.alloc (.cells #[x, y, z] t)) w.heap.size x y z := by
  refine ⟨?_, ?_, ?_⟩ <;> simp [go_sem]

set_option maxHeartbeats 1000000 in
theorem law_new (s : Int) (c0 : Int) (xss : List (List Int)) (htot : tot xss xss.length = 0)
    (hspec : ∀ w, Calls Try.prog 26 #[.int .i64 s] w fun e w' => ∃ u, e = .returned (.agg #[.int .i64 c0, u, .slice none 0 0]) ∧ Below w.heap.size w w' ∧ OwII (fun b => w.heap.size ≤ b ∧ b < w'.heap.size) w' u xss)
    (himpl : ∀ w, Calls Try.prog 19 #[.int .i64 s] w fun e w' => ∃ u, e = .returned (.agg #[.int .i64 c0, u, .slice none 0 0]) ∧ Below w.heap.size w w' ∧ OwII (fun b => w.heap.size ≤ b ∧ b < w'.heap.size) w' u xss)
    (w : World) : Calls Try.prog 6 #[.int .i64 s] w fun e w' => e = .returned (.bool true) ∧ Below w.heap.size w w' := by
  have HS := hide hspec
  have HI := hide himpl
  have HT := hide htot
  have HM := hide (show (1 : Int) + (tot xss xss.length : Int) + (totP [] ([] : List (Int × List Int)).length : Int) = 1 by rw [htot]; simp [totP])
  clear hspec himpl htot HT
  obtain ⟨n, hn⟩ : ∃ n, n = xss.length := ⟨_, rfl⟩
  have HL := hide hn
  clear hn
  go_enter Try.func6, Try.ntmps6
  go_wp2_with fail
  refine (HS.out _).mono ?_
  rintro e w1 ⟨u1, rfl, hb1, ho1⟩
  obtain ⟨ao1, cp1, rfl⟩ := ho1.shape
  rw [← HL.out] at ho1 ⊢
  have B1 := hide hb1
  have O1 := hide ho1
  have z01 := hb1.size
  clear hb1 ho1
  go_wp2_with fail
  refine (HI.out _).mono ?_
  rintro e w2 ⟨u2, rfl, hb2, ho2⟩
  obtain ⟨ao2, cp2, rfl⟩ := ho2.shape
  rw [← HL.out] at ho2 ⊢
  have V1 := (Var3_new w1 (.int .i64 c0) (.slice ao1 n cp1) (.slice none 0 0) 32).later hb2
  have O1b := hide ((O1.out.later (below_alloc _ _)).later hb2)
  have B2 := hide (below_on B1.out (below_on (below_alloc _ _) hb2))
  have O2 := hide ho2
  have z12 : w1.heap.size < w2.heap.size := by have := hb2.size; simp at this; omega
  clear hb2 ho2 B1 O1
  obtain ⟨v10, v11, v12⟩ := V1
  go_wp2_with fail
  refine (eqDiskResult (O2.out.rd.later (below_alloc _ _)) ((OwP_nil (fun _ => False) _).rd) (O1b.out.rd.later (below_alloc _ _)) ((OwP_nil (fun _ => False) _).rd)).mono ?_
  rintro e w3 ⟨rfl, hb3⟩
  have V1 := (Var3.later ⟨v10, v11, v12⟩ (below_alloc _ _)).later hb3
  have V2 := (Var3_new w2 (.int .i64 c0) (.slice ao2 n cp2) (.slice none 0 0) 32).later hb3
  have O1c := hide ((O1b.out.later (below_alloc _ _)).later hb3)
  have O2c := hide ((O2.out.later (below_alloc _ _)).later hb3)
  have B3 := hide (below_on B2.out (below_on (below_alloc _ _) hb3))
  have z23 : w2.heap.size < w3.heap.size := by have := hb3.size; simp at this; omega
  clear hb3 v10 v11 v12 O1b O2 B2
  have HV1 := hide V1
  clear V1
  obtain ⟨v20, v21, v22⟩ := V2
  go_wp2_with fail
  refine (markDiskResult O2c.out (OwP_nil (fun _ => False) _) (fun _ _ h => h) (fun b hb => by omega) (by omega) (by rw [HM.out]; omega)).mono ?_
  rintro e w4 ⟨he, hr4, _, hw4⟩
  rw [HM.out] at he
  subst he
  have V2 := Var3.wr ⟨v20, v21, v22⟩ hw4 (by simp <;> omega)
  have V1 := hide (HV1.out.wr hw4 (by have := HV1.out.lt; simp; omega))
  have O1d := hide (O1c.out.wr hw4 (by intro b hb; simp; omega))
  have B4 := hide (B3.out.trans (hw4.below (by omega) (by intro b hb; simp at hb; omega)))
  have R4 := hide hr4
  have z34 := hw4.size
  clear hr4 hw4 v20 v21 v22 O1c O2c B3 HV1
  obtain ⟨v20, v21, v22⟩ := V2
  go_wp2_with fail
  refine (heldDiskResult R4.out ((OwP_nil (fun _ => False) _).rd) (by omega) (by rw [HM.out]; omega)).mono ?_
  rintro e w5 ⟨he, hb5⟩
  rw [HM.out] at he
  subst he
  have V2 := hide (Var3.later ⟨v20, v21, v22⟩ hb5)
  have V1b := hide (V1.out.later hb5)
  have O1e := hide (O1d.out.later hb5)
  have B5 := hide (B4.out.trans (hb5.mono (by omega)))
  have R5 := hide (R4.out.later hb5)
  have z45 := hb5.size
  clear hb5 v20 v21 v22 O1d B4 V1 R4
  go_wp2_with fail
  refine (HI.out _).mono ?_
  rintro e w6 ⟨u6, rfl, hb6, ho6⟩
  obtain ⟨ao6, cp6, rfl⟩ := ho6.shape
  rw [← HL.out] at ho6 ⊢
  have V1 := V1b.out.later hb6
  have V2b := hide (V2.out.later hb6)
  have O1f := hide (O1e.out.later hb6)
  have R6 := hide (R5.out.later hb6)
  have B6 := hide (B5.out.trans (hb6.mono (by omega)))
  have O6 := hide ho6
  have z56 := hb6.size
  have hlt := V1.lt
  clear hb6 ho6 V1b V2 O1e R5 B5
  obtain ⟨v10, v11, v12⟩ := V1
  go_wp2_with fail
  refine (eqDiskResult (O6.out.rd.later (below_alloc _ _)) ((OwP_nil (fun _ => False) _).rd) (O1f.out.rd.later (below_alloc _ _)) ((OwP_nil (fun _ => False) _).rd)).mono ?_
  rintro e w7 ⟨rfl, hb7⟩
  have V2 := (V2b.out.later (below_alloc _ _)).later hb7
  have R7 := hide ((R6.out.later (below_alloc _ _)).later hb7)
  have B7 := hide (B6.out.trans ((below_on (below_alloc _ _) hb7).mono (by omega)))
  have z67 := hb7.size
  simp only [World.size_alloc] at z67
  clear hb7 v10 v11 v12 V2b O1f R6 B6 O6
  obtain ⟨v20, v21, v22⟩ := V2
  go_wp2_with fail
  refine (heldDiskResult R7.out ((OwP_nil (fun _ => False) _).rd) (by omega) (by rw [HM.out]; omega)).mono ?_
  rintro e w8 ⟨he, hb8⟩
  rw [HM.out] at he
  subst he
  have B8 := hide (B7.out.trans (hb8.mono (by omega)))
  clear hb8 v20 v21 v22 B7 R7
  go_wp2
  go_ret
  exact ⟨rfl, B8.out⟩
end Go.Proofs.Ytfichaljjkjcoaa
