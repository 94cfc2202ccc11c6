/- DrawF3 DrawF4 in one text: what each says stands at its head below. -/
import Derived.Test.YtbfdnjhdlnfpmaaG38
import Derived.Test.YtbfdnjhdlnfpmaaG14
/- Chapter 8, draws: 'l8Draw', walked: files without a fault, in rows that may be appended to. -/
namespace Go.Proofs.Ytbfdnjhdlnfpmaa
open Go.RowKit

set_option maxHeartbeats 4000000 in
set_option maxRecDepth 4000 in
theorem l8Draw {s : Nat} {v : Value} {bs : List Nat} {w : World} {t : Nat} (hS : Src s v bs w t) (ht : t ≤ 1000000000) :
    Calls Try.prog 23 #[.pointer (some ⟨s, 0, none⟩)] w fun e w' => ∃ (ao : Option Addr) (n c : Nat) (fs : List Oj), e = .returned (.slice ao n c) ∧ fs.length = n ∧ filF fs = 0 ∧ FoRow (w.heap.size ≤ ·) w' (.slice ao n c) n fs ∧ ∃ t', Drawn 9 s v bs t t' w w' := by
  have HS := hide hS
  have hsl := hS.lt
  clear hS
  have D0 := hide ((Drawn.refl HS.out).later (below_on (below_alloc w (.cells #[] 35)) (below_alloc (w.alloc (.cells #[] 35)) (.cells #[] 2))))
  have R0 := hide ((FoRow.empty w (w.heap.size ≤ ·) (Nat.le_refl _) []).later (below_alloc (w.alloc (.cells #[] 35)) (.cells #[] 2)))
  have U0 : Hid (OwI w.heap.size ((w.alloc (.cells #[] 35)).alloc (.cells #[] 2)) (.slice (some ⟨w.heap.size + 1, 0, none⟩) 0 0) []) := ⟨0, ⟨some ⟨w.heap.size + 1, 0, none⟩, 0, rfl, by simp, fun h => absurd rfl h⟩, fun h => absurd rfl h⟩
  have hf0 : filF [] = 0 := filF_iff.2 ⟨by simp, fun p hp => absurd hp (by simp), List.Pairwise.nil, List.nodup_nil⟩
  have HF0 := hide hf0
  clear hf0
  go_enter Try.func23, Try.ntmps23
  go_wp2_with fail
  refine (l1Next 5 D0.out.1 (by omega) (by omega) (by omega)).mono ?_
  rintro e w1 ⟨r, rfl, ra, rb, t1, hd1⟩
  have hr5 := rb (by omega)
  have D1 := hide (D0.out.on hd1)
  have R1 := hide (R0.out.drawn hd1.2.1 (by omega))
  have U1 := hide (U0.out.wr (T := (· = s)) hd1.2.1 (fun b hb _ e => by omega))
  obtain ⟨m0, hm0⟩ : ∃ m : Nat, r = (m : Int) := ⟨r.toNat, by omega⟩
  subst hm0
  clear hd1 D0 R0 U0 rb
  go_wp2
  go_loopw [3, 4, 5] (fun vo vu i wr => ∃ (j m n c nu cu t5 : Nat) (ao au : Option Addr) (fs : List Oj) (us : List Int), j + m ≤ 4 ∧ vo = .slice ao n c ∧ vu = .slice au nu cu ∧ i = .int .i64 (m : Int) ∧ Hid (fs.length = n) ∧ Hid (filF fs = 0) ∧ Hid (FoRow (w.heap.size ≤ ·) wr (.slice ao n c) n fs) ∧ Hid (us.length = nu) ∧ Hid (OwI w.heap.size wr (.slice au nu cu) us) ∧ Hid (Drawn (1 + 2 * j) s v bs t t5 w wr)) (fun _ _ i _ => (RowKit.intOf i).toNat)
  case atStart => exact ⟨0, m0, 0, 0, 0, 0, t1, _, _, [], [], by omega, rfl, rfl, rfl, rfl, HF0.out, R1.out, rfl, U1.out, D1.out⟩
  case round =>
    clear D1 R1 U1 HF0
    obtain ⟨j, m, n, c, nu, cu, t5, ao, au, fs, us, hjm, rfl, rfl, rfl, HN, HF, HR, HU, HOu, HD⟩ := hrel
    have hz := HD.out.2.1.size
    have ht5 := HD.out.2.2
    by_cases hlt : 0 < m
    · have hlt' : (0 : Int) < (m : Int) := by omega
      have hmw : IntKind.i64.wrap ((m : Int) - 1) = ((m - 1 : Nat) : Int) := by simp [IntKind.wrap, IntKind.bits, IntKind.signed]; omega
      go_wp2_with fail
      refine (l1Next 6 HD.out.1 (by omega) (by omega) (by omega)).mono ?_
      rintro e w6 ⟨r6, rfl, ra6, rb6, t6, hd6⟩
      have D6 := hide (HD.out.on hd6)
      have R6 := hide (HR.out.drawn hd6.2.1 (by omega))
      have U6 := hide (HOu.out.wr (T := (· = s)) hd6.2.1 (fun b hb _ e => by omega))
      have hz6 := hd6.2.1.size
      have h66 := rb6 (by omega)
      have hw6 : IntKind.i64.wrap (1 + r6) = 1 + r6 := by simp [IntKind.wrap, IntKind.bits, IntKind.signed]; omega
      have ht6 := D6.out.2.2
      clear hd6 rb6
      go_wp2_with fail
      refine (l1Next 20 D6.out.1 (by omega) (by omega) (by omega)).mono ?_
      rintro e w7 ⟨z, rfl, za, zb, t7, hd7⟩
      have D7 := hide (D6.out.on hd7)
      have R7 := hide (R6.out.drawn hd7.2.1 (by omega))
      have U7 := hide (U6.out.wr (T := (· = s)) hd7.2.1 (fun b hb _ e => by omega))
      have hz7 := hd7.2.1.size
      have h77 := zb (by omega)
      obtain ⟨a, ha⟩ : ∃ a, 1 + r6 = a := ⟨_, rfl⟩
      rw [ha] at hw6
      clear hd7 zb D6 R6 U6
      have bA := below_alloc w7 (.cells #[.int .i64 a, .int .i64 z, .slice none 0 0] 35)
      have HFor := hide (fun W => l8For z za (by omega) W)
      obtain ⟨M, hM⟩ : ∃ M : Nat, nbF z = (M : Int) := ⟨(nbF z).toNat, by unfold nbF; omega⟩
      have hM20 : M ≤ 20 := by unfold nbF at hM; omega
      rw [hM] at HFor
      have HTk := hide (l7Take M hM20 (U7.out.rd.later bA))
      have f1 : (w7.alloc (.cells #[.int .i64 a, .int .i64 z, .slice none 0 0] 35)).cell? ⟨w7.heap.size, 1, none⟩ = some (.int .i64 z) := by simp [go_sem]
      have HBA := hide bA
      clear bA hM f1
      go_wp2_with fail
      refine (HFor.out _).mono ?_
      rintro e w8 ⟨rfl, hw8⟩
      have hw8 := hw8.symm
      subst hw8
      go_wp2_with fail
      refine HTk.out.mono ?_
      rintro e w9 ⟨y9, z9, rfl, hb9, ho9⟩
      have HB9 := hide (below_on HBA.out hb9)
      obtain ⟨b1, b2, hr1, hr2, ho1, ho2, _⟩ := ho9
      obtain ⟨a1, c1, hy1⟩ := hr1.shape
      obtain ⟨a2, c2, hy2⟩ := hr2.shape
      subst hy1 hy2
      obtain ⟨l1, hl1⟩ : ∃ l, (tbL us (M : Int)).length = l := ⟨_, rfl⟩
      obtain ⟨l2, hl2⟩ : ∃ l, (tbU us (M : Int)).length = l := ⟨_, rfl⟩
      have hl20 := tbL_len us (M : Int)
      rw [hl1, hl2]
      rw [hl1] at hr1 hl20
      rw [hl2] at hr2
      have HL1 := hide hl1
      have HL2 := hide hl2
      have HR1 := hide hr1
      have HOz : Hid (OwI (w7.heap.size + 1) w9 (.slice a2 l2 c2) (tbU us (M : Int))) := ⟨b2, hr2, fun hn => by have := ho2 hn; simpa using this⟩
      have k0 : w9.cell? ⟨w7.heap.size, 0, none⟩ = some (.int .i64 a) := cell_later hb9 (by simp [go_sem])
      have k1 : w9.cell? ⟨w7.heap.size, 1, none⟩ = some (.int .i64 z) := cell_later hb9 (by simp [go_sem])
      have k2 : w9.cell? ⟨w7.heap.size, 2, none⟩ = some (.slice none 0 0) := cell_later hb9 (by simp [go_sem])
      have kf : w9.frozen? ⟨w7.heap.size, 2, none⟩ = false := ((bcell hb9).2 _ _ (by simp)).trans (by simp [go_sem])
      have hz9 : w7.heap.size + 1 ≤ w9.heap.size := by have := hb9.size; simpa using this
      have hb1z : tbL us (M : Int) ≠ [] → w7.heap.size + 1 ≤ b1 := fun hn => by have := (ho1 hn).1; simpa using this
      have HB1z := hide hb1z
      clear hb9 hr1 hr2 ho1 ho2 hl1 hl2 HTk HFor hb1z
      obtain ⟨B, hBd⟩ : ∃ B, decide ((l1 : Nat) = M) = B := ⟨_, rfl⟩
      rw [hBd]
      clear hBd
      obtain ⟨w10, hw10⟩ : ∃ w10, w9.setCell ⟨w7.heap.size, 2, none⟩ (.slice a1 l1 c1) = w10 := ⟨_, rfl⟩
      have hwr : Wr (fun y => y = w7.heap.size) w9 w10 := by rw [← hw10]; exact (Wr.refl (fun y => y = w7.heap.size) _).setCell (p := ⟨w7.heap.size, 2, none⟩) rfl _
      have HB10 : Hid (Below w7.heap.size w7 w10) := by rw [Hid, ← hw10]; exact HB9.out.setCell (Nat.le_refl _) _
      have q0 : w10.cell? ⟨w7.heap.size, 0, none⟩ = some (.int .i64 a) := by rw [← hw10]; simp [go_sem, k0]
      have q1 : w10.cell? ⟨w7.heap.size, 1, none⟩ = some (.int .i64 z) := by rw [← hw10]; simp [go_sem, k1]
      have q2 : w10.cell? ⟨w7.heap.size, 2, none⟩ = some (.slice a1 l1 c1) := by rw [← hw10]; simp [go_sem, k2]
      have HR10 := hide (HR1.out.wr hwr (fun hn b hb e => by have := HB1z.out hn; omega))
      have HOz10 := hide (HOz.out.wr hwr (fun b hb _ e => by omega))
      have hz10' : w7.heap.size + 1 ≤ w10.heap.size := by rw [← hw10]; simpa using hz9
      have HLn := hide (lens_of HF.out)
      have HPt := hide (specPutOwn (xs := tbL us (M : Int)) a z ((R7.out.later HB10.out).rd HN.out (by have := (filF_iff.1 HF.out).len; rw [HN.out] at this; omega) HLn.out.2) HR10.out (by rw [HL1.out]; omega))
      clear hwr
      obtain ⟨C, hC⟩ : ∃ C, ptC fs (a, z, tbL us (M : Int)) = C := ⟨_, rfl⟩
      have HCf := hide (fun h => (ptC_fil (fs := fs) (p := (a, z, tbL us (M : Int))) h).2)
      rw [hC] at HPt HCf
      clear hC
      go_wp2_with fail
      refine HPt.out.mono ?_
      rintro e w11 ⟨ap, np, cp, rfl, hb11, hP⟩
      have bR := below_alloc w11 (.cells #[.int .i64 C, .slice ap np cp] 28)
      have HB12 := hide (below_on (below_on HB10.out hb11) bR)
      have HBz := hide (below_on hb11 bR)
      have D12 := hide (D7.out.onBelow HS.out (HB12.out.mono (show w.heap.size ≤ w7.heap.size by omega)))
      have R12 := hide (R7.out.later HB12.out)
      have U12 := hide (U7.out.later HB12.out)
      have HPn := hide (fun h => And.intro (hP h).1 (((hP h).2.later bR).mono (P' := (w.heap.size ≤ ·)) (fun b hb => by omega)))
      have HUn := hide ((HOz10.out.later HBz.out).mono (show w.heap.size ≤ w7.heap.size + 1 by omega))
      clear hb11 hP bR
      cases B with
      | false =>
        go_wp2
        go_roundw
        case rel => exact ⟨j + 1, m - 1, n, c, nu, cu, t7, ao, au, fs, us, by omega, rfl, rfl, by first | rfl | go_num, HN.out, HF.out, R12.out, HU.out, U12.out, D12.out⟩
        case measure => simp [RowKit.intOf]; omega
      | true =>
        by_cases hC0 : C = 0
        · subst hC0
          have HPm := hide (HPn.out rfl)
          have HFm := hide (HCf.out rfl)
          go_wp2
          go_roundw
          case rel => exact ⟨j + 1, m - 1, np, cp, l2, c2, t7, ap, a2, _, _, by omega, rfl, rfl, by first | rfl | go_num, HPm.out.1.symm, HFm.out, HPm.out.2, HL2.out, HUn.out, D12.out⟩
          case measure => simp [RowKit.intOf]; omega
        · have hCb : (C == 0) = false := by simpa using hC0
          go_wp2
          go_roundw
          case rel => exact ⟨j + 1, m - 1, n, c, nu, cu, t7, ao, au, fs, us, by omega, rfl, rfl, by first | rfl | go_num, HN.out, HF.out, R12.out, HU.out, U12.out, D12.out⟩
          case measure => simp [RowKit.intOf]; omega
    · have hm0 : m = 0 := by omega
      subst hm0
      go_wp2
      go_ret
      exact ⟨ao, n, c, fs, rfl, HN.out, HF.out, HR.out, t5, HD.out.mono (by omega)⟩
end Go.Proofs.Ytbfdnjhdlnfpmaa
/- Chapter 8, draws: files in rows that may be appended to: what is read of them, one more file, one more block. -/
namespace Go.Proofs.Ytbfdnjhdlnfpmaa
open Go.RowKit

theorem rd_of_owns {P : Nat → Prop} {w : World} {e : Nat} {v : Value} {xs : List Int} (h : w.ownsRow 0 e 1 v xs.length (xs.map (Value.int .i64))) (hm : xs.length ≤ 1048576) (hP : ∀ r, v.ownBlock = some r → P r) : RdI P w v xs := by
  rcases h.2 with ⟨rfl, e⟩ | ⟨g, cap, cur, rfl, hg, hh, hnc, _⟩
  · have : xs = [] := List.eq_nil_of_length_eq_zero e
    subst this
    exact ⟨none, 0, rfl, by simp, fun h => absurd rfl h⟩
  · refine ⟨_, cap - xs.length, by rw [Nat.add_sub_cancel' hnc], by omega, fun _ => ⟨g, 0, rfl, hP g rfl, fun i hi => ?_⟩⟩
    rw [Nat.zero_add, h.cellAt i (by simpa using hi)]
    simp [List.getD, hi]
theorem FoRow.rdP {P : Nat → Prop} {w : World} {v : Value} {k : Nat} {gs : List Oj} (h : FoRow P w v k gs) (hk : gs.length = k) (hm : k ≤ 1048576) (hl : ∀ i, i < gs.length → (gs.getD i oj0).2.2.length ≤ 1048576) : RdJ P w v gs := by
  obtain ⟨V, h1, h2, h3⟩ := h
  subst hk
  rcases h1.2 with ⟨rfl, e⟩ | ⟨g, cap, cur, rfl, hg, hh, _⟩
  · have : gs = [] := List.eq_nil_of_length_eq_zero e
    subst this
    exact ⟨none, 0, rfl, by simp, fun h => absurd rfl h⟩
  · refine ⟨_, cap, rfl, by omega, fun _ => ⟨g, 0, V, rfl, h2 g rfl, fun i hi => ⟨?_, ?_, ?_, rd_of_owns (h3.1 i hi).1 (hl i hi) (fun r hr => ((h3.1 i hi).2 r hr).1)⟩⟩⟩
    · rw [Nat.zero_add, h1.cellAt (i * 3) (by omega)]
      exact cellsFi_flg _ _ _ _ hi
    · rw [Nat.zero_add, h1.cellAt (i * 3 + 1) (by omega)]
      exact cellsFi_num _ _ _ _ hi
    · rw [Nat.zero_add, h1.cellAt (i * 3 + 2) (by omega)]
      exact cellsFi_words _ _ _ _ hi
theorem FoRow.snoc {P : Nat → Prop} {w : World} {v : Value} {ps : List Oj} (h : FoRow P w v ps.length ps) (p : Oj) : FoRow P w v ps.length (ps ++ [p]) := by
  obtain ⟨V, h1, h2, h3⟩ := h
  have e : ∀ i, i < ps.length → (ps ++ [p]).getD i oj0 = ps.getD i oj0 := fun i hi => by simp [List.getD, List.getElem?_append_left hi]
  refine ⟨V, by rw [cellsFi_ext (ps ++ [p]) ps ps.length V e]; exact h1, h2, fun i hi => ?_, h3.2⟩
  have := h3.1 i hi
  dsimp only at this ⊢
  rw [e i hi]
  exact this
/-- One more block for the first file: the row of its blocks has grown, and its slice is stored anew. -/
theorem FoRow.first {P : Nat → Prop} {w w2 w3 : World} {g n cap g' cap' : Nat} {fs : List Oj} {V : Nat → Value} {x : Int} (hpr : P g) (h3 : RowsI P w (some g) n V (fun i => (fs.getD i oj0).2.2)) (hn : fs.length = n) (h0 : 0 < n) (hm : n ≤ 1048576) (hl : ∀ i, i < fs.length → (fs.getD i oj0).2.2.length ≤ 1000)
    (hb : ∀ i, i < n → w2.ownsRow 0 2 1 (V i) (fs.getD i oj0).2.2.length ((fs.getD i oj0).2.2.map (Value.int .i64))) (hb2 : w2.ownsRow 0 35 3 (.slice (some ⟨g, 0, none⟩) n cap) n (cellsFi fs n V)) (hN : ∀ b, w2.heap.size ≤ b + 1 → P b)
    (hown : w3.ownsRow 0 2 1 (.slice (some ⟨g', 0, none⟩) ((fs.getD 0 oj0).2.2.length + 1) cap') ((fs.getD 0 oj0).2.2.length + 1) ((fs.getD 0 oj0).2.2.map (Value.int .i64) ++ [.int .i64 x])) (hg : w2.grownBy w3 (V 0).ownBlock) (hat : (V 0).ownBlock = some g' ∨ g' = w2.heap.size) :
    RdJ P (w3.setCell ⟨g, 2, none⟩ (.slice (some ⟨g', 0, none⟩) ((fs.getD 0 oj0).2.2.length + 1) cap')) (.slice (some ⟨g, 0, none⟩) n cap) ((List.range n).map fun i => if i = 0 then ((fs.getD 0 oj0).1, (fs.getD 0 oj0).2.1, (fs.getD 0 oj0).2.2 ++ [x]) else fs.getD i oj0) := by
  have hgg : (V 0).ownBlock ≠ some g := fun e => ((h3.1 0 h0).2 g e).2 rfl
  have hrow3 : w3.ownsRow 0 35 3 (.slice (some ⟨g, 0, none⟩) n cap) n (cellsFi fs n V) := hb2.kept hg (Or.inr fun e => hgg e.symm)
  have hlt3 : g < w2.heap.size := (hb2.lt g rfl).2
  have hg'g : g' ≠ g := by
    rcases hat with h | h
    · intro e; rw [e] at h; exact hgg h
    · omega
  have hlen : ((List.range n).map fun i => if i = 0 then ((fs.getD 0 oj0).1, (fs.getD 0 oj0).2.1, (fs.getD 0 oj0).2.2 ++ [x]) else fs.getD i oj0).length = n := by simp
  have hgd : ∀ i, i < n → ((List.range n).map fun i => if i = 0 then ((fs.getD 0 oj0).1, (fs.getD 0 oj0).2.1, (fs.getD 0 oj0).2.2 ++ [x]) else fs.getD i oj0).getD i oj0 = if i = 0 then ((fs.getD 0 oj0).1, (fs.getD 0 oj0).2.1, (fs.getD 0 oj0).2.2 ++ [x]) else fs.getD i oj0 := fun i hi => by simp [List.getD, hi]
  have hwr : Wr (· = g) w3 (w3.setCell ⟨g, 2, none⟩ (.slice (some ⟨g', 0, none⟩) ((fs.getD 0 oj0).2.2.length + 1) cap')) := (Wr.refl (· = g) _).setCell (p := ⟨g, 2, none⟩) rfl _
  have cell : ∀ o u, (cellsFi fs n V)[o]? = some u → o ≠ 2 → (w3.setCell ⟨g, 2, none⟩ (.slice (some ⟨g', 0, none⟩) ((fs.getD 0 oj0).2.2.length + 1) cap')).cell? ⟨g, o, none⟩ = some u := fun o u hu ho => by
    rw [World.cell?_setCell_other _ _ _ _ (by intro e; injection e with _ e2; exact ho e2.symm)]
    have ho3 : o < n * 3 := by have := (List.getElem?_eq_some_iff.1 hu).1; rw [cellsFi_len] at this; exact this
    rw [hrow3.cellAt o ho3, hu]
  refine ⟨_, cap, by rw [hlen], by rw [hlen]; omega, fun _ => ⟨g, 0, fun i => if i = 0 then .slice (some ⟨g', 0, none⟩) ((fs.getD 0 oj0).2.2.length + 1) cap' else V i, rfl, hpr, fun i hi => ?_⟩⟩
  rw [hlen] at hi
  rw [hgd i hi]
  by_cases e : i = 0
  · subst e
    simp only [if_true]
    refine ⟨?_, ?_, ?_, ?_⟩
    · have := cell 0 _ (by simpa using cellsFi_flg fs n V 0 hi) (by omega); simpa using this
    · have := cell 1 _ (by simpa using cellsFi_num fs n V 0 hi) (by omega); simpa using this
    · have h2 : w3.cell? ⟨g, 2, none⟩ = some (V 0) := by rw [hrow3.cellAt 2 (by omega)]; simpa using cellsFi_words fs n V 0 hi
      have := World.cell?_setCell_same w3 ⟨g, 2, none⟩ (.slice (some ⟨g', 0, none⟩) ((fs.getD 0 oj0).2.2.length + 1) cap') h2
      simpa using this
    · have hR : RdI P w3 (.slice (some ⟨g', 0, none⟩) ((fs.getD 0 oj0).2.2.length + 1) cap') ((fs.getD 0 oj0).2.2 ++ [x]) := by
        refine rd_of_owns (by simpa using hown) (by have := hl 0 (by omega); rw [List.length_append]; simp only [List.length_cons, List.length_nil]; omega) (fun r hr => ?_)
        injection hr with hr
        subst hr
        rcases hat with h | h
        · exact ((h3.1 0 h0).2 _ h).1
        · exact hN _ (by dsimp only; omega)
      obtain ⟨ao, c, q1, q2, q3⟩ := hR
      refine ⟨ao, c, q1, q2, fun hne => ?_⟩
      obtain ⟨b, off, p1, p2, p3⟩ := q3 hne
      have hbg : b ≠ g := by
        injection q1 with q1 _ _
        rw [← q1] at p1
        injection p1 with p1
        injection p1 with p1 _ _
        omega
      exact ⟨b, off, p1, p2, fun j hj => by rw [World.cell?_setCell_other _ _ _ _ (by intro e; injection e with e1 _; exact hbg e1.symm)]; exact p3 j hj⟩
  · simp only [if_neg e]
    refine ⟨?_, ?_, ?_, ?_⟩
    · have := cell (i * 3) _ (cellsFi_flg fs n V i hi) (by omega); simpa using this
    · have := cell (i * 3 + 1) _ (cellsFi_num fs n V i hi) (by omega); simpa [Nat.add_assoc] using this
    · have := cell (i * 3 + 2) _ (cellsFi_words fs n V i hi) (by omega); simpa [Nat.add_assoc] using this
    · have hk : w3.ownsRow 0 2 1 (V i) (fs.getD i oj0).2.2.length ((fs.getD i oj0).2.2.map (Value.int .i64)) := by
        refine (hb i hi).kept hg ?_
        cases hv : (V i).ownBlock with
        | none => exact Or.inl rfl
        | some r => exact Or.inr (fun e2 => h3.2 i 0 hi h0 e r hv e2.symm)
      have hR : RdI (fun b => P b ∧ b ≠ g) w3 (V i) (fs.getD i oj0).2.2 := rd_of_owns hk (by have := hl i (by omega); omega) (fun r hr => ⟨((h3.1 i hi).2 r hr).1, fun e2 => ((h3.1 i hi).2 r hr).2 (by rw [e2])⟩)
      exact (hR.wr hwr (fun _ b hb e => hb.2 e)).narrow (fun _ b hb => hb.1)
end Go.Proofs.Ytbfdnjhdlnfpmaa
