/- DrawF9 in one text: what each says stands at its head below. -/
import Derived.Test.YtbfdnjhdlnfpmaaG41
import Derived.Test.YtbfdnjhdlnfpmaaG15
import Derived.Test.YtbfdnjhdlnfpmaaG26
/- Chapter 8, draws: 'spec.DrawPutFile', walked: a list of files and one more file, all of which can be read. Made by program (gendrawf9.py). -/
namespace Go.Proofs.Ytbfdnjhdlnfpmaa
open Go.RowKit

theorem set3_otherF {w : World} {b h o : Nat} {x y z : Value} (hb : b ≠ h) : (((w.setCell ⟨h, 0, none⟩ x).setCell ⟨h, 1, none⟩ y).setCell ⟨h, 2, none⟩ z).cell? ⟨b, o, none⟩ = w.cell? ⟨b, o, none⟩ := by
  rw [World.cell?_setCell_other _ _ _ _ (by intro e; injection e with e1 _; exact hb e1.symm), World.cell?_setCell_other _ _ _ _ (by intro e; injection e with e1 _; exact hb e1.symm), World.cell?_setCell_other _ _ _ _ (by intro e; injection e with e1 _; exact hb e1.symm)]

set_option linter.unusedSimpArgs false in
set_option maxHeartbeats 8000000 in
set_option maxRecDepth 4000 in
theorem drawPutFile {w : World} {v : Value} {bs : List Nat} (hv : RdB w.heap.size w v bs) (hbl : bs.length ≤ 1048576) :
    Calls Try.prog 11 #[v] w fun e w' => ∃ (ao : Option Addr) (n c : Nat) (fs : List Oj) (a s : Int) (z : Value) (xs : List Int), e = .returned (.tuple #[.slice ao n c, .agg #[.int .i64 a, .int .i64 s, z]]) ∧ fs.length = n ∧ n ≤ 5 ∧ (∀ p, p ∈ fs → p.2.2.length ≤ 6) ∧ xs.length ≤ 64 ∧ Below w.heap.size w w' ∧ RdJ (fun _ => True) w' (.slice ao n c) fs ∧ RdI (fun _ => True) w' z xs := by
  have b0 := below_alloc w (.cells #[.int .i64 0, .int .i64 0, .slice none 0 0] 35)
  have hv1 : RdB (w.alloc (.cells #[.int .i64 0, .int .i64 0, .slice none 0 0] 35)).heap.size (w.alloc (.cells #[.int .i64 0, .int .i64 0, .slice none 0 0] 35)) v bs := by
    obtain ⟨ao, c, e1, e2, e3⟩ := hv
    refine ⟨ao, c, e1, e2, fun hne => ?_⟩
    obtain ⟨b, off, f1, f2, f3⟩ := e3 hne
    have := World.block_lt_of_cell? _ _ (f3 0 (List.length_pos_iff.2 hne)).1
    exact ⟨b, off, f1, by simp at this ⊢; omega, fun i hi => ⟨cell_later b0 (f3 i hi).1, (f3 i hi).2⟩⟩
  have HV := hide hv1
  obtain ⟨av, cv, hve, _⟩ := hv.src
  subst hve
  obtain ⟨i0, hi, hz0, hz1, hz2⟩ := info_parts Try.infoU8
  obtain ⟨j0, ki, kz0, kz1, kz2⟩ := info_parts Try.infoInt
  clear hv hv1
  go_enter Try.func11, Try.ntmps11
  go_wp2_with fail
  refine (l8With HV.out).mono ?_
  rintro e w1 ⟨ao, n, c, fs, x, rfl, hn, hn5, hl, hb1, hr⟩
  have hs0 := hb1.size
  rw [World.size_alloc] at hs0
  have HN := hide hn
  have HL := hide hl
  have HB0 := hide (below_on b0 hb1)
  have HR := hide hr
  have R0 : Hid (w1.cell? ⟨w.heap.size, 0, none⟩ = some (.int .i64 0)) := cell_later hb1 (by simp [go_sem])
  have R1 : Hid (w1.cell? ⟨w.heap.size, 1, none⟩ = some (.int .i64 0)) := cell_later hb1 (by simp [go_sem])
  have R2 : Hid (w1.cell? ⟨w.heap.size, 2, none⟩ = some (.slice none 0 0)) := cell_later hb1 (by simp [go_sem])
  have RF : Hid (∀ o, w1.frozen? ⟨w.heap.size, o, none⟩ = false) := fun o => ((bcell hb1).2 _ _ (by simp)).trans (by simp [go_sem])
  have bA := below_alloc w1 (.cells #[.int .u8 4] 5)
  obtain ⟨a2, c2, e2, hsrc⟩ := ((HV.out.later hb1).later bA).src
  injection e2 with e3 _ _
  subst e3
  have HS := hide hsrc
  have HOw := hide (ownsRow_fullF w1 [.int .u8 4] 5 (by simp))
  have HBA := hide bA
  clear hn hl hb1 hr bA hsrc b0
  go_wp2_with (at_builtin; refine wpList_append_any _ rfl _ _ 22 rfl w1.heap.size 5 i0 (.int .u8 0) 1 1 Try.underlying22 hi hz0 hz1 hz2 rfl (by decide) _ 1 _ (by rfl) HOw.out av bs.length _ (u8s bs) (by rfl) (by simp [u8s]) HS.out (u8s_one _) (by unfold maxLen; omega) (by omega) (by simp) ?_; intro v' w3 hown hgrow)
  have hB3 : Below w1.heap.size w1 w3 := HBA.out.grown hgrow (by simp) (fun r hr => by simp [Value.ownBlock] at hr; omega)
  have HB3 := hide hB3
  have HRB : Hid (RdB w3.heap.size w3 v' (4 :: bs)) := rdB_of_owns hown (by simp; omega) (by omega) (fun z hz => by
    rcases List.mem_cons.1 hz with rfl | hz
    · omega
    · exact HV.out.small z hz)
  have hs3 := hB3.size
  obtain ⟨a3, c3, hv3⟩ := owns_shapeM hown
  subst hv3
  clear hown hgrow hB3
  go_wp2_with fail
  refine (l1Source HRB.out).mono ?_
  rintro e w4 ⟨rfl, hb4, hz4, hS4⟩
  have HB4 := hide (below_on HB3.out hb4)
  have HS4 := hide hS4
  obtain ⟨s, hs⟩ : ∃ s, w3.heap.size = s := ⟨_, rfl⟩
  rw [hs] at HS4 hz4 hs3 ⊢
  clear hb4 hS4 hs
  go_wp2_with fail
  refine (l1Next 18 HS4.out (by omega) (by omega) (by omega)).mono ?_
  rintro e w5 ⟨r, rfl, ra, rb, t5, hd5⟩
  have rc := rb (by omega)
  have HS5 := hide hd5.1
  have ht5 := hd5.2.2
  have hs5 := hd5.2.1.size
  have HB5 := hide (HB4.out.trans (hd5.2.1.below (by omega) (fun b hb => by omega)))
  have bF := below_alloc w5 (.cells #[.int .i64 x, .int .i64 r, .slice none 0 0] 35)
  have HBF := hide bF
  have HBW := hide (HB5.out.trans (bF.mono (by omega)))
  have HRw := hide ((HR.out.ltF).later HBW.out)
  have f0 : (w5.alloc (.cells #[.int .i64 x, .int .i64 r, .slice none 0 0] 35)).cell? ⟨w5.heap.size, 0, none⟩ = some (.int .i64 x) := by simp [go_sem]
  have f1 : (w5.alloc (.cells #[.int .i64 x, .int .i64 r, .slice none 0 0] 35)).cell? ⟨w5.heap.size, 1, none⟩ = some (.int .i64 r) := by simp [go_sem]
  have f2 : (w5.alloc (.cells #[.int .i64 x, .int .i64 r, .slice none 0 0] 35)).cell? ⟨w5.heap.size, 2, none⟩ = some (.slice none 0 0) := by simp [go_sem]
  have FF : Hid (∀ o, (w5.alloc (.cells #[.int .i64 x, .int .i64 r, .slice none 0 0] 35)).frozen? ⟨w5.heap.size, o, none⟩ = false) := fun o => by simp [go_sem]
  have hF : w5.heap.size < (w5.alloc (.cells #[.int .i64 x, .int .i64 r, .slice none 0 0] 35)).heap.size := by simp
  have HKb := hide (fun (w' : World) (hb : Below (w5.alloc (.cells #[.int .i64 x, .int .i64 r, .slice none 0 0] 35)).heap.size (w5.alloc (.cells #[.int .i64 x, .int .i64 r, .slice none 0 0] 35)) w') => l8Blocks (HRw.out.later hb) (by rw [HN.out]; omega))
  have hlb : (lbTo fs 20).length ≤ 100 := by have := lbTo_len fs 20; rw [HN.out] at this; omega
  generalize lbTo fs 20 = LB at HKb hlb
  obtain ⟨kk, hkk, hkk3⟩ : ∃ kk : Nat, nbF r = (kk : Int) ∧ kk ≤ 3 := ⟨(nbF r).toNat, by unfold nbF; omega, by unfold nbF; omega⟩
  have HKf := hide (fun (w' : World) => l8For r ra (by omega) w')
  rw [hkk] at HKf
  clear hd5 rb bF hkk HB5
  go_upto_region 4 with fail
  generalize w5.alloc (.cells #[.int .i64 x, .int .i64 r, .slice none 0 0] 35) = W at HBF HBW HRw f0 f1 f2 FF hF HKb ⊢
  obtain ⟨F, hFF⟩ : ∃ F, w5.heap.size = F := ⟨_, rfl⟩
  have HFe := hide hFF
  rw [hFF] at f0 f1 f2 FF hF hs5 ⊢
  clear hFF HRB HS4 HS HOw HBA HV HB3 HB4
  refine wp_region_held_drew (S := fun w' => w'.cell? ⟨F, 1, none⟩ = some (.int .i64 r)) (by kernel_rfl) f1 (fun hHeld => ?_)
  refine forgetH (fun wx => (wx.cell? ⟨F, 1, none⟩ = some (.int .i64 r)) ∧ Below W.heap.size W wx) ⟨hHeld, below_drewN W 1⟩ ?_
  clear hHeld
  rintro V0 ⟨hHeld, hbx⟩
  have HB0v := hide hbx
  clear hbx
  refine wpAnyH_take (i := 0) (v := ?va0) rfl (by kernel_rfl) (by kernel_rfl) (by kernel_rfl) (fun _ _ _ h => h) (Or.inl ⟨by rfl, ?ha0⟩) hHeld ?ra0
  case ha0 => intro w9 hSw; (try dsimp only at hSw); first | (go_simp; done) | (go_simp; with_reducible rfl) | (go_simp; simp; done)
  try simp only [Act.put, List.setIfInBounds_toArray, List.set_cons_zero, List.set_cons_succ, List.getElem_toArray, List.getElem_cons_zero]
  refine wpAnyH_take (i := 2) (v := ?va2) rfl (by kernel_rfl) (by kernel_rfl) (by kernel_rfl) (fun _ _ _ h => h) (Or.inl ⟨by rfl, ?ha2⟩) hHeld ?ra2
  case ha2 => intro w9 hSw; (try dsimp only at hSw); first | (go_simp; done) | (go_simp; with_reducible rfl) | (go_simp; simp; done)
  try simp only [Act.put, List.setIfInBounds_toArray, List.set_cons_zero, List.set_cons_succ, List.getElem_toArray, List.getElem_cons_zero, List.getElem_cons_succ]
  refine wpAnyH_take (i := 3) (v := ?va3) rfl (by kernel_rfl) (by kernel_rfl) (by kernel_rfl) (fun _ _ _ h => h) (Or.inl ⟨by rfl, ?ha3⟩) hHeld ?ra3
  case ha3 => intro w9 hSw; (try dsimp only at hSw); first | (go_simp; done) | (go_simp; with_reducible rfl) | (go_simp; simp; done)
  try simp only [Act.put, List.setIfInBounds_toArray, List.set_cons_zero, List.set_cons_succ, List.getElem_toArray, List.getElem_cons_zero, List.getElem_cons_succ]
  refine wpAnyH_ready (rs := [1]) (by kernel_rfl) (by simp) (AllReadyH.cons rfl (fun K hK => ?_) AllReadyH.nil)
  go_simp
  go_at_call 33
  refine (HKb.out _ HB0v.out).mono ?_
  rintro e w7 ⟨z7, rfl, hb7, ho7⟩
  have h7 := cell_later hb7 hHeld
  have HB7 := hide (below_on HB0v.out hb7)
  have HI7 := hide (ow_of_owns rfl ho7 (by omega)).rd
  clear hb7 ho7 hHeld
  refine hK.out _ _ h7 (fun hHeld => ?_)
  clear hK K h7
  try simp only [Act.put, List.setIfInBounds_toArray, List.set_cons_zero, List.set_cons_succ, List.getElem_toArray, List.getElem_cons_zero, List.getElem_cons_succ]
  refine wpAnyH_ready (rs := [4]) (by kernel_rfl) (by simp) (AllReadyH.cons rfl (fun K hK => ?_) AllReadyH.nil)
  go_simp
  go_at_call 34
  refine (HKf.out _).mono ?_
  rintro e w8 ⟨rfl, hw8⟩
  have hw8 := hw8.symm
  subst hw8
  refine hK.out _ _ hHeld (fun hHeld2 => ?_)
  clear hK K hHeld
  have hHeld := hHeld2
  clear hHeld2
  try simp only [Act.put, List.setIfInBounds_toArray, List.set_cons_zero, List.set_cons_succ, List.getElem_toArray, List.getElem_cons_zero, List.getElem_cons_succ]
  refine wpAnyH_ready (rs := [5]) (by kernel_rfl) (by simp) (AllReadyH.cons rfl (fun K hK => ?_) AllReadyH.nil)
  go_simp
  go_at_call 32
  refine (l7TakeOwn kk (by omega) HI7.out).mono ?_
  rintro e w9 ⟨g, j, c9, z9, r9, rfl, hb9, htl, hj20, hown9⟩
  have h9 := cell_later hb9 hHeld
  have hz7 := HB7.out.size
  have HB9 := hide (below_on HB7.out hb9)
  have own9 := hide hown9
  have HTL := hide htl
  generalize tbL LB kk = TL at own9 HTL
  clear hb9 hown9 htl hHeld
  refine hK.out _ _ h9 (fun hHeld => ?_)
  clear hK K
  try simp only [Act.put, List.setIfInBounds_toArray, List.set_cons_zero, List.set_cons_succ, List.getElem_toArray, List.getElem_cons_zero, List.getElem_cons_succ]
  refine wpAnyH_take (i := 6) (v := ?vb6) rfl (by kernel_rfl) (by kernel_rfl) (by kernel_rfl) (fun _ _ _ h => h) (Or.inl ⟨by rfl, ?hb6⟩) hHeld ?rb6
  case hb6 => intro w9 hSw; (try dsimp only at hSw); first | (go_simp; done) | (go_simp; with_reducible rfl) | (go_simp; simp; done)
  try simp only [Act.put, List.setIfInBounds_toArray, List.set_cons_zero, List.set_cons_succ, List.getElem_toArray, List.getElem_cons_zero, List.getElem_cons_succ]
  refine wpAnyH_take (i := 7) (v := ?vb7) rfl (by kernel_rfl) (by kernel_rfl) (by kernel_rfl) (fun _ _ _ h => h) (Or.inl ⟨by rfl, ?hb7⟩) hHeld ?rb7
  case hb7 => intro w9 hSw; (try dsimp only at hSw); first | (go_simp; done) | (go_simp; with_reducible rfl) | (go_simp; simp; done)
  try simp only [Act.put, List.setIfInBounds_toArray, List.set_cons_zero, List.set_cons_succ, List.getElem_toArray, List.getElem_cons_zero, List.getElem_cons_succ]
  refine wpAnyH_take (i := 8) (v := ?vb8) rfl (by kernel_rfl) (by kernel_rfl) (by kernel_rfl) (fun _ _ _ h => h) (Or.inl ⟨by rfl, ?hb8⟩) hHeld ?rb8
  case hb8 => intro w9 hSw; (try dsimp only at hSw); first | (go_simp; done) | (go_simp; with_reducible rfl) | (go_simp; simp; done)
  try simp only [Act.put, List.setIfInBounds_toArray, List.set_cons_zero, List.set_cons_succ, List.getElem_toArray, List.getElem_cons_zero, List.getElem_cons_succ]
  refine wpAnyH_take (i := 9) (v := ?vb9) rfl (by kernel_rfl) (by kernel_rfl) (by kernel_rfl) (fun _ _ _ h => h) (Or.inl ⟨by rfl, ?hb9⟩) hHeld ?rb9
  case hb9 => intro w9 hSw; (try dsimp only at hSw); first | (go_simp; done) | (go_simp; with_reducible rfl) | (go_simp; simp; done)
  try simp only [Act.put, List.setIfInBounds_toArray, List.set_cons_zero, List.set_cons_succ, List.getElem_toArray, List.getElem_cons_zero, List.getElem_cons_succ]
  refine wpAnyH_take (i := 10) (v := ?vb10) rfl (by kernel_rfl) (by kernel_rfl) (by kernel_rfl) (fun _ _ _ h => h) (Or.inl ⟨by rfl, ?hb10⟩) hHeld ?rb10
  case hb10 => intro w9 hSw; (try dsimp only at hSw); first | (go_simp; done) | (go_simp; with_reducible rfl) | (go_simp; simp; done)
  try simp only [Act.put, List.setIfInBounds_toArray, List.set_cons_zero, List.set_cons_succ, List.getElem_toArray, List.getElem_cons_zero, List.getElem_cons_succ]
  refine wpAnyH_take (i := 11) (v := ?vb11) rfl (by kernel_rfl) (by kernel_rfl) (by kernel_rfl) (fun _ _ _ h => h) (Or.inl ⟨by rfl, ?hb11⟩) hHeld ?rb11
  case hb11 => intro w9 hSw; (try dsimp only at hSw); first | (go_simp; done) | (go_simp; with_reducible rfl) | (go_simp; simp; done)
  try simp only [Act.put, List.setIfInBounds_toArray, List.set_cons_zero, List.set_cons_succ, List.getElem_toArray, List.getElem_cons_zero, List.getElem_cons_succ]
  refine wpAnyH_take (i := 12) (v := ?vb12) rfl (by kernel_rfl) (by kernel_rfl) (by kernel_rfl) (fun _ _ _ h => h) (Or.inl ⟨by rfl, ?hb12⟩) hHeld ?rb12
  case hb12 => intro w9 hSw; (try dsimp only at hSw); first | (go_simp; done) | (go_simp; with_reducible rfl) | (go_simp; simp; done)
  try simp only [Act.put, List.setIfInBounds_toArray, List.set_cons_zero, List.set_cons_succ, List.getElem_toArray, List.getElem_cons_zero, List.getElem_cons_succ]
  refine wpAnyH_done (by kernel_rfl) ?_ _
  have e0 := cell_later HB9.out f0
  have e1 := cell_later HB9.out f1
  have e2 := cell_later HB9.out f2
  have ef : ∀ o, w9.frozen? ⟨F, o, none⟩ = false := fun o => ((bcell HB9.out).2 _ _ hF).trans (FF.out o)
  have ef2 := ef 2
  have hz9 := HB9.out.size
  have hg7 : w7.heap.size ≤ g := (own9.out.lt g (by simp [Value.ownBlock])).1
  have hFg : F < g := by omega
  have hg9 : g < w9.heap.size := (own9.out.lt g (by simp [Value.ownBlock])).2
  have d0 : (w9.setCell ⟨F, 2, none⟩ (.slice (some ⟨g, 0, none⟩) j c9)).cell? ⟨F, 0, none⟩ = some (.int .i64 x) := by rw [World.cell?_setCell_other _ _ _ _ (by simp)]; exact e0
  have d1 : (w9.setCell ⟨F, 2, none⟩ (.slice (some ⟨g, 0, none⟩) j c9)).cell? ⟨F, 1, none⟩ = some (.int .i64 r) := by rw [World.cell?_setCell_other _ _ _ _ (by simp)]; exact e1
  have d2 : (w9.setCell ⟨F, 2, none⟩ (.slice (some ⟨g, 0, none⟩) j c9)).cell? ⟨F, 2, none⟩ = some (.slice (some ⟨g, 0, none⟩) j c9) := by rw [World.cell?_setCell_same _ _ _ e2]
  have df : Hid (∀ o, (w9.setCell ⟨F, 2, none⟩ (.slice (some ⟨g, 0, none⟩) j c9)).frozen? ⟨F, o, none⟩ = false) := fun o => by rw [World.frozen?_setCell]; exact ef o
  have HB10 : Hid (Below w5.heap.size w5 (w9.setCell ⟨F, 2, none⟩ (.slice (some ⟨g, 0, none⟩) j c9))) := (below_on HBF.out HB9.out).setCell (p := ⟨F, 2, none⟩) (by have := HFe.out; dsimp only; omega) _
  have HS10 := hide (HS5.out.later HB10.out)
  have HX10 : Hid (Below w1.heap.size w1 (w9.setCell ⟨F, 2, none⟩ (.slice (some ⟨g, 0, none⟩) j c9))) := (HBW.out.trans (HB9.out.mono HBW.out.size)).setCell (p := ⟨F, 2, none⟩) (by dsimp only; omega) _
  have own10 := hide (ownsRow_wr (s := F) own9.out ((Wr.refl (· = F) w9).setCell (p := ⟨F, 2, none⟩) rfl (.slice (some ⟨g, 0, none⟩) j c9)) (by simp [Value.ownBlock]; omega))
  have hz10 : g < (w9.setCell ⟨F, 2, none⟩ (.slice (some ⟨g, 0, none⟩) j c9)).heap.size := by simpa using hg9
  go_wp2_with fail
  generalize (w9.setCell ⟨F, 2, none⟩ (.slice (some ⟨g, 0, none⟩) j c9)) = w10 at d0 d1 d2 df HB10 HS10 HX10 own10 hz10 ⊢
  clear e0 e1 e2 ef ef2 own9 HB9 hz9 hg9
  refine (l1ChanceF 6 HS10.out (by omega) (by omega) (by omega)).mono ?_
  rintro e w11 ⟨rr, rfl, t11, hd11⟩
  have hw := hd11.2.1
  have p0 := cell_wr hw d0 (by omega)
  have p1 := cell_wr hw d1 (by omega)
  have p2 := cell_wr hw d2 (by omega)
  have hz11 := hw.size
  have pf2 : w11.frozen? ⟨F, 2, none⟩ = false := (hw.frz F 2 (World.block_lt_of_cell? _ _ d2)).trans (df.out 2)
  have own11 := hide (ownsRow_wr own10.out hw (by simp [Value.ownBlock]; omega))
  have HX := hide (HX10.out.trans (hw.below HX10.out.size (fun b hb => by omega)))
  clear hd11 hw d0 d1 d2 HX10 own10 HS10 HB10
  cases rr
  case false =>
    have HRow := hide ((ow_of_owns HTL.out own11.out (by rw [HTL.out]; omega)).rd)
    clear pf2 own11
    go_upto_region 8 with fail
    refine wp_region_held_drew (S := fun w' => w'.cell? ⟨F, 0, none⟩ = some (.int .i64 x) ∧ w'.cell? ⟨F, 1, none⟩ = some (.int .i64 r) ∧ w'.cell? ⟨F, 2, none⟩ = some (.slice (some ⟨g, 0, none⟩) j c9)) (by kernel_rfl) ⟨p0, p1, p2⟩ (fun hHeld => ?_)
    refine forgetH (fun wx => (wx.cell? ⟨F, 0, none⟩ = some (.int .i64 x) ∧ wx.cell? ⟨F, 1, none⟩ = some (.int .i64 r) ∧ wx.cell? ⟨F, 2, none⟩ = some (.slice (some ⟨g, 0, none⟩) j c9)) ∧ Below w11.heap.size w11 wx) ⟨hHeld, below_drewN w11 1⟩ ?_
    clear hHeld
    rintro V ⟨hHeld, hbV⟩
    have HBV := hide hbV
    clear hbV p0 p1 p2
    have HXV := hide (HX.out.trans (HBV.out.mono HX.out.size))
    have Z0 := cell_later HXV.out R0.out
    have Z1 := cell_later HXV.out R1.out
    have Z2 := cell_later HXV.out R2.out
    have YF : ∀ o, V.frozen? ⟨w.heap.size, o, none⟩ = false := fun o => ((bcell HXV.out).2 _ _ (by omega)).trans (RF.out o)
    have Y0 := YF 0
    have Y1 := YF 1
    have Y2 := YF 2
    clear YF
    refine wpAnyH_take (i := 0) (v := ?vbn0) rfl (by kernel_rfl) (by kernel_rfl) (by kernel_rfl) (fun _ _ _ h => h) (Or.inl ⟨by rfl, ?hbn0⟩) hHeld ?rbn0
    case hbn0 => intro w9 hSw; (try dsimp only at hSw); first | (go_simp; done) | (go_simp; with_reducible rfl) | (go_simp; simp; done)
    try simp only [Act.put, List.setIfInBounds_toArray, List.set_cons_zero, List.set_cons_succ, List.getElem_toArray, List.getElem_cons_zero]
    refine wpAnyH_take (i := 1) (v := ?vbn1) rfl (by kernel_rfl) (by kernel_rfl) (by kernel_rfl) (fun _ _ _ h => h) (Or.inl ⟨by rfl, ?hbn1⟩) hHeld ?rbn1
    case hbn1 => intro w9 hSw; (try dsimp only at hSw); first | (go_simp; done) | (go_simp; with_reducible rfl) | (go_simp; simp; done)
    try simp only [Act.put, List.setIfInBounds_toArray, List.set_cons_zero, List.set_cons_succ, List.getElem_toArray, List.getElem_cons_zero, List.getElem_cons_succ]
    refine wpAnyH_take (i := 2) (v := ?vbn2) rfl (by kernel_rfl) (by kernel_rfl) (by kernel_rfl) (fun _ _ _ h => h) (Or.inl ⟨by rfl, ?hbn2⟩) hHeld ?rbn2
    case hbn2 => intro w9 hSw; (try dsimp only at hSw); first | (go_simp; done) | (go_simp; with_reducible rfl) | (go_simp; simp; done)
    try simp only [Act.put, List.setIfInBounds_toArray, List.set_cons_zero, List.set_cons_succ, List.getElem_toArray, List.getElem_cons_zero, List.getElem_cons_succ]
    refine wpAnyH_ready (rs := [3]) (by kernel_rfl) (by simp) (AllReadyH.cons rfl (fun K hK => ?_) AllReadyH.nil)
    obtain ⟨q0, q1, q2⟩ := id hHeld
    go_simp
    have hnF : F ≠ w.heap.size := by omega
    have hw : Wr (fun y => y = w.heap.size) V (((V.setCell ⟨w.heap.size, 0, none⟩ (.int .i64 x)).setCell ⟨w.heap.size, 1, none⟩ (.int .i64 r)).setCell ⟨w.heap.size, 2, none⟩ (.slice (some ⟨g, 0, none⟩) j c9)) := (((Wr.refl (fun y => y = w.heap.size) _).setCell (p := ⟨w.heap.size, 0, none⟩) rfl _).setCell (p := ⟨w.heap.size, 1, none⟩) rfl _).setCell (p := ⟨w.heap.size, 2, none⟩) rfl _
    have HW := hide hw
    clear hw
    refine hK.out _ _ ⟨(set3_otherF hnF).trans q0, (set3_otherF hnF).trans q1, (set3_otherF hnF).trans q2⟩ (fun _ => ?_)
    clear hK K
    try simp only [Act.put, List.setIfInBounds_toArray, List.set_cons_zero, List.set_cons_succ, List.getElem_toArray, List.getElem_cons_zero, List.getElem_cons_succ]
    refine wpAnyH_done (by kernel_rfl) ?_ _
    go_wp2
    refine bodyPost_ret (v := .tuple #[.slice ao n c, .agg #[.int .i64 x, .int .i64 r, .slice (some ⟨g, 0, none⟩) j c9]]) (by simp [results, Try.results11, go_sem, Z0, Z1, Z2]) rfl ⟨ao, n, c, fs, x, r, _, _, rfl, HN.out, hn5, HL.out, ?_, ?_, ?_, (((HRow.out.later HBV.out)).wr HW.out (fun _ b hb e => by omega)).narrow (fun _ _ _ => trivial)⟩
    · rw [HTL.out]; omega
    · exact below_on HB0.out (HXV.out) |>.trans (HW.out.below (by have := HXV.out.size; omega) (fun b hb => by omega))
    · exact (((HR.out.ltF).later HXV.out).wr HW.out (fun b hb e => by have := hb.1; simp at this; omega)).narrowF (fun _ _ => trivial)
  case true =>
    go_wp2_with (at_builtin; refine wpList_append_lies _ rfl _ _ _ rfl w7.heap.size 2 j0 (.int .i64 0) 1 8 Try.underlying24 ki kz0 kz1 kz2 rfl (by omega) _ j _ (by rfl) (own11.out.alloc (.cells #[.int .i64 5] 2)) ⟨w11.heap.size, 0, none⟩ 1 1 [.int .i64 5] (by rfl) (by rfl) (World.news_of_block (cs := #[.int .i64 5]) (t := 2) (fr := (0, 0)) (heap_alloc_new w11 _)) (by simp [Value.oneCell']) (by omega) (by unfold maxLen; omega) (by omega) (by simp; omega) (w11.heap.size + 1) (by simp) ?_; intro g2 cap w12 hown hgrow hat hlt12; have hb12 : Below (F + 1) w11 w12 := (Below.grown (Below.mono (below_alloc w11 (.cells #[.int .i64 5] 2)) (show F + 1 ≤ w11.heap.size by omega)) hgrow (by simp; omega) (fun r hr => by simp [Value.ownBlock] at hr; omega)); have hg2 : F < g2 := (hat.elim (fun h => by simp only [Value.ownBlock] at h; injection h with h; omega) (fun h => by omega)); have o0 : w12.cell? ⟨F, 0, none⟩ = some (.int .i64 x) := ((hb12.cell (p := ⟨F, 0, none⟩) (by simp)).trans p0); have o1 : w12.cell? ⟨F, 1, none⟩ = some (.int .i64 r) := ((hb12.cell (p := ⟨F, 1, none⟩) (by simp)).trans p1); have o2 : w12.cell? ⟨F, 2, none⟩ = some (.slice (some ⟨g, 0, none⟩) j c9) := ((hb12.cell (p := ⟨F, 2, none⟩) (by simp)).trans p2); have of2 : w12.frozen? ⟨F, 2, none⟩ = false := ((hb12.frozen (p := ⟨F, 2, none⟩) (by simp)).trans pf2))
    have HTL2 := hide (show (TL ++ [5]).length = j + 1 by rw [List.length_append, HTL.out]; rfl)
    have own12 : Hid (w12.ownsRow w7.heap.size 2 1 (.slice (some ⟨g2, 0, none⟩) (j + 1) cap) (j + 1) ((TL ++ [5]).map (Value.int .i64))) := by rw [List.map_append]; exact hown
    have HX12 : Hid (Below w1.heap.size w1 w12) := HX.out.trans (hb12.mono (by omega))
    have hF12 : F < w12.heap.size := World.block_lt_of_cell? _ _ o2
    have hz12 := hb12.size
    clear hown hgrow hat hlt12 hb12 p0 p1 p2 pf2 own11 HX
    have p0 : (w12.setCell ⟨F, 2, none⟩ (.slice (some ⟨g2, 0, none⟩) (j + 1) cap)).cell? ⟨F, 0, none⟩ = some (.int .i64 x) := by rw [World.cell?_setCell_other _ _ _ _ (by simp)]; exact o0
    have p1 : (w12.setCell ⟨F, 2, none⟩ (.slice (some ⟨g2, 0, none⟩) (j + 1) cap)).cell? ⟨F, 1, none⟩ = some (.int .i64 r) := by rw [World.cell?_setCell_other _ _ _ _ (by simp)]; exact o1
    have p2 : (w12.setCell ⟨F, 2, none⟩ (.slice (some ⟨g2, 0, none⟩) (j + 1) cap)).cell? ⟨F, 2, none⟩ = some (.slice (some ⟨g2, 0, none⟩) (j + 1) cap) := by rw [World.cell?_setCell_same _ _ _ o2]
    have HX : Hid (Below w1.heap.size w1 (w12.setCell ⟨F, 2, none⟩ (.slice (some ⟨g2, 0, none⟩) (j + 1) cap))) := HX12.out.setCell (p := ⟨F, 2, none⟩) (by dsimp only; omega) _
    have HRow := hide ((ow_of_owns HTL2.out own12.out (by rw [HTL2.out]; omega)).rd.wr ((Wr.refl (· = F) w12).setCell (p := ⟨F, 2, none⟩) rfl (.slice (some ⟨g2, 0, none⟩) (j + 1) cap)) (fun _ b hb e => by omega))
    generalize (w12.setCell ⟨F, 2, none⟩ (.slice (some ⟨g2, 0, none⟩) (j + 1) cap)) = w13 at p0 p1 p2 HX HRow ⊢
    clear o0 o1 o2 of2 own12 HX12 hF12
    refine wp_region_held_drew (S := fun w' => w'.cell? ⟨F, 0, none⟩ = some (.int .i64 x) ∧ w'.cell? ⟨F, 1, none⟩ = some (.int .i64 r) ∧ w'.cell? ⟨F, 2, none⟩ = some (.slice (some ⟨g2, 0, none⟩) (j + 1) cap)) (by kernel_rfl) ⟨p0, p1, p2⟩ (fun hHeld => ?_)
    refine forgetH (fun wx => (wx.cell? ⟨F, 0, none⟩ = some (.int .i64 x) ∧ wx.cell? ⟨F, 1, none⟩ = some (.int .i64 r) ∧ wx.cell? ⟨F, 2, none⟩ = some (.slice (some ⟨g2, 0, none⟩) (j + 1) cap)) ∧ Below w13.heap.size w13 wx) ⟨hHeld, below_drewN w13 1⟩ ?_
    clear hHeld
    rintro V ⟨hHeld, hbV⟩
    have HBV := hide hbV
    clear hbV p0 p1 p2
    have HXV := hide (HX.out.trans (HBV.out.mono HX.out.size))
    have Z0 := cell_later HXV.out R0.out
    have Z1 := cell_later HXV.out R1.out
    have Z2 := cell_later HXV.out R2.out
    have YF : ∀ o, V.frozen? ⟨w.heap.size, o, none⟩ = false := fun o => ((bcell HXV.out).2 _ _ (by omega)).trans (RF.out o)
    have Y0 := YF 0
    have Y1 := YF 1
    have Y2 := YF 2
    clear YF
    refine wpAnyH_take (i := 0) (v := ?vby0) rfl (by kernel_rfl) (by kernel_rfl) (by kernel_rfl) (fun _ _ _ h => h) (Or.inl ⟨by rfl, ?hby0⟩) hHeld ?rby0
    case hby0 => intro w9 hSw; (try dsimp only at hSw); first | (go_simp; done) | (go_simp; with_reducible rfl) | (go_simp; simp; done)
    try simp only [Act.put, List.setIfInBounds_toArray, List.set_cons_zero, List.set_cons_succ, List.getElem_toArray, List.getElem_cons_zero]
    refine wpAnyH_take (i := 1) (v := ?vby1) rfl (by kernel_rfl) (by kernel_rfl) (by kernel_rfl) (fun _ _ _ h => h) (Or.inl ⟨by rfl, ?hby1⟩) hHeld ?rby1
    case hby1 => intro w9 hSw; (try dsimp only at hSw); first | (go_simp; done) | (go_simp; with_reducible rfl) | (go_simp; simp; done)
    try simp only [Act.put, List.setIfInBounds_toArray, List.set_cons_zero, List.set_cons_succ, List.getElem_toArray, List.getElem_cons_zero, List.getElem_cons_succ]
    refine wpAnyH_take (i := 2) (v := ?vby2) rfl (by kernel_rfl) (by kernel_rfl) (by kernel_rfl) (fun _ _ _ h => h) (Or.inl ⟨by rfl, ?hby2⟩) hHeld ?rby2
    case hby2 => intro w9 hSw; (try dsimp only at hSw); first | (go_simp; done) | (go_simp; with_reducible rfl) | (go_simp; simp; done)
    try simp only [Act.put, List.setIfInBounds_toArray, List.set_cons_zero, List.set_cons_succ, List.getElem_toArray, List.getElem_cons_zero, List.getElem_cons_succ]
    refine wpAnyH_ready (rs := [3]) (by kernel_rfl) (by simp) (AllReadyH.cons rfl (fun K hK => ?_) AllReadyH.nil)
    obtain ⟨q0, q1, q2⟩ := id hHeld
    go_simp
    have hnF : F ≠ w.heap.size := by omega
    have hw : Wr (fun y => y = w.heap.size) V (((V.setCell ⟨w.heap.size, 0, none⟩ (.int .i64 x)).setCell ⟨w.heap.size, 1, none⟩ (.int .i64 r)).setCell ⟨w.heap.size, 2, none⟩ (.slice (some ⟨g2, 0, none⟩) (j + 1) cap)) := (((Wr.refl (fun y => y = w.heap.size) _).setCell (p := ⟨w.heap.size, 0, none⟩) rfl _).setCell (p := ⟨w.heap.size, 1, none⟩) rfl _).setCell (p := ⟨w.heap.size, 2, none⟩) rfl _
    have HW := hide hw
    clear hw
    refine hK.out _ _ ⟨(set3_otherF hnF).trans q0, (set3_otherF hnF).trans q1, (set3_otherF hnF).trans q2⟩ (fun _ => ?_)
    clear hK K
    try simp only [Act.put, List.setIfInBounds_toArray, List.set_cons_zero, List.set_cons_succ, List.getElem_toArray, List.getElem_cons_zero, List.getElem_cons_succ]
    refine wpAnyH_done (by kernel_rfl) ?_ _
    go_wp2
    refine bodyPost_ret (v := .tuple #[.slice ao n c, .agg #[.int .i64 x, .int .i64 r, .slice (some ⟨g2, 0, none⟩) (j + 1) cap]]) (by simp [results, Try.results11, go_sem, Z0, Z1, Z2]) rfl ⟨ao, n, c, fs, x, r, _, _, rfl, HN.out, hn5, HL.out, ?_, ?_, ?_, (((HRow.out.later HBV.out)).wr HW.out (fun _ b hb e => by omega)).narrow (fun _ _ _ => trivial)⟩
    · rw [HTL2.out]; omega
    · exact below_on HB0.out (HXV.out) |>.trans (HW.out.below (by have := HXV.out.size; omega) (fun b hb => by omega))
    · exact (((HR.out.ltF).later HXV.out).wr HW.out (fun b hb e => by have := hb.1; simp at this; omega)).narrowF (fun _ _ => trivial)
end Go.Proofs.Ytbfdnjhdlnfpmaa
