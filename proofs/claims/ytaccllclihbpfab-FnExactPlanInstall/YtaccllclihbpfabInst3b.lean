/- Chapter 3, the model's side: 'l3Install' and 'PlanInstall', walked. -/
import Derived.Test.YtaccllclihbpfabInst3
namespace Go.Proofs.Ytaccllclihbpfab
open Go.RowKit

set_option maxHeartbeats 4000000 in
set_option maxRecDepth 4000 in
/-- 'spec.l3Install' of a disk and its header. -/
theorem l3Install {S T S3 : Nat → Prop} {w : World} {bd bh o : Nat} {u v y : Value} {xss : List (List Int)} {ps : List (Int × List Int)} {s t : Int} {A : List Int} (hd0 : w.cell? ⟨bd, 0, none⟩ = some u) (hd1 : w.cell? ⟨bd, 1, none⟩ = some v) (hu : RdII S w u xss) (hv : RdP T w v ps) (hs : Small xss ps) (h66 : xss.length = 66)
    (hh : HdAt w bh o s t y) (hA : RdI S3 w y A) (hhd : headF s t A = 0) (hs2 : s < 65000) :
    Calls Try.prog 74 #[.pointer (some ⟨bd, 0, none⟩), .pointer (some ⟨bh, o, none⟩)] w fun e w' => ∃ z, e = .returned z ∧ Below w.heap.size w w' ∧ BuiltT (w.heap.size ≤ ·) w' z (A.length + 3) (insTs xss ps s t A) := by
  obtain ⟨⟨hs1, _, ht, ht'⟩, hl24, hA39⟩ := headF_zero hhd
  obtain ⟨i0, hi, hz0, hz1, hz2⟩ := info_parts Try.infoStep
  have A0 := hide (below_alloc w (.cells #[] 27))
  have HLg := hide (l3Log (cell_later A0.out hd0) (cell_later A0.out hd1) (hu.later A0.out) (hv.later A0.out) hs h66 (hh.later A0.out) (hA.later A0.out) ht ht' hl24)
  have HSl := hide (fun (w' : World) (hb : Below w.heap.size w w') => l3Slot (A.length : Int) w' (hh.later hb) ht ht' (by omega) (by omega))
  have HPsL := hide (logPs_len xss ps t A)
  have HPsA := hide (logPs_at xss ps t A)
  have HTA := hide (insTs_at xss ps s t A)
  have HT0 := hide (insTs_0 xss ps s t A)
  have HT1 := hide (insTs_1 xss ps s t A)
  have HT2 := hide (insTs_2 xss ps s t A)
  have hsq := hh.seq
  generalize logPs xss ps t A = lps at HLg HPsL HPsA
  generalize insTs xss ps s t A = ts at HTA HT0 HT1 HT2 ⊢
  have hq1 : 0 ≤ (t + (A.length : Int)) % 24 := by omega
  generalize (t + (A.length : Int)) % 24 = q at HSl HT1 hq1
  have HA39 := hide hA39
  obtain ⟨n, hn⟩ : ∃ n, A.length = n := ⟨_, rfl⟩
  have HN := hide hn
  rw [hn] at HLg HSl HPsL HPsA HTA HT0 HT1 HT2 hl24 HA39 ⊢
  have hws : IntKind.i64.wrap (s + 1) = s + 1 := by simp [IntKind.wrap, IntKind.bits, IntKind.signed]; omega
  have HHd := hide (fun (w' : World) => l3Head (w := w') (s + 1) q (RdI_nil (fun _ => True) w' none 0) (by simp) (by omega))
  have hbl := World.block_lt_of_cell? _ _ hsq
  clear hd0 hd1 hu hv hs h66 hh hA hhd hA39 hn
  go_enter Try.func74, Try.ntmps74
  go_wp2_with fail
  refine HLg.out.mono ?_
  rintro e w1 ⟨zl, rfl, hb1, ho1⟩
  obtain ⟨V, Bk, hownL, hprL, hinL⟩ := ho1
  obtain ⟨al, cl, rfl⟩ := BuiltP.shape ⟨V, Bk, hownL, hprL, hinL⟩
  have hs1' : w.heap.size + 1 ≤ w1.heap.size := by have := hb1.size; simpa using this
  have HLog : Hid (∀ k, k < n → ∃ gl, al = some ⟨gl, 0, none⟩ ∧ w1.cell? ⟨gl, k * 2, none⟩ = some (.int .i64 (lps.getD k (0, [])).1) ∧ w1.cell? ⟨gl, k * 2 + 1, none⟩ = some (V k) ∧ w.heap.size + 1 ≤ gl) := by
    intro k hk
    rcases hownL.2 with ⟨_, e⟩ | ⟨g, cap, cur, e, hg, hh', _⟩
    · omega
    · injection e with e1 e2 e3
      subst e1
      refine ⟨g, rfl, ?_, ?_, by have := hprL g rfl; simpa using this⟩
      · subst e3
        rw [hownL.cellAt (k * 2) (by omega)]
        exact cellsP_num _ _ _ _ hk
      · subst e3
        rw [hownL.cellAt (k * 2 + 1) (by omega)]
        exact cellsP_words _ _ _ _ hk
  have HInL : Hid (Inner (fun b => w.heap.size + 1 ≤ b) w1 (Value.slice al n cl).ownBlock n V Bk (fun i => (lps.getD i (0, [])).2)) := hinL.mono (fun b hb _ => by simpa using hb)
  have HI0 : Hid (InAt w w1 ts V 0 (.slice (some ⟨w.heap.size, 0, none⟩) 0 0) w1) :=
    ⟨ownsRow_later (World.ownsRow_made w #[] 0 (Nat.zero_le _) (by unfold maxLen; omega) (by simp)) hb1, fun r hr => by injection hr with hr; exact Or.inl hr.symm, Nat.le_refl _, fun _ _ _ => rfl, below_on A0.out hb1⟩
  clear hb1 hownL hprL hinL
  go_wp2
  go_loopw [5, 7] (fun v i wr => ∃ k : Nat, k ≤ n ∧ i = .int .i64 k ∧ Hid (∃ av cv, v = .slice av k cv) ∧ Hid (InAt w w1 ts V k v wr)) (fun _ i _ => n - (intOf i).toNat)
  case atStart => exact ⟨0, Nat.zero_le _, rfl, ⟨_, _, rfl⟩, HI0.out⟩
  case round =>
    obtain ⟨k, hk, rfl, HSh, HI⟩ := hrel
    obtain ⟨av, cv, rfl⟩ := HSh.out
    by_cases hlt : k < n
    · obtain ⟨gl, rfl, g1, g2, hgl⟩ := HLog.out k hlt
      obtain ⟨ak, ck, hVk⟩ := (HInL.out.rd k hlt).shape
      have g1' := HI.out.cell g1 (by omega)
      have g2' := HI.out.cell g2 (by omega)
      obtain ⟨x, hx⟩ : ∃ x, (lps.getD k (0, [])).1 = x := ⟨_, rfl⟩
      obtain ⟨lk, hlk⟩ : ∃ lk, (lps.getD k (0, [])).2.length = lk := ⟨_, rfl⟩
      rw [hlk] at hVk
      rw [hx] at g1'
      rw [hVk] at g2'
      have hxA : A.getD k 0 = x := by rw [← hx, HPsA.out k hlt]
      have hx39 := HA39.out k hlt
      rw [hxA] at hx39
      have HTk := hide (HTA.out k hlt)
      rw [hxA] at HTk
      have HVk := hide hVk
      have hwx : IntKind.i64.wrap (26 + x) = 26 + x := by simp [IntKind.wrap, IntKind.bits, IntKind.signed]; omega
      have hk0 : (0 : Int) ≤ (k : Int) := Int.natCast_nonneg _
      have hk1 : (k : Int) < (n : Int) := by omega
      have hszw := HI.out.size
      have hglw := World.block_lt_of_cell? _ _ g1
      have hfar : Hid (∀ b, b < w1.heap.size → b ≠ w.heap.size → some b ≠ (Value.slice av k cv).ownBlock) := fun b h1 h2 e => by rcases HI.out.blk b e.symm with h | h <;> omega
      clear g1 g2 hVk hx hlk hxA
      go_wp2_with fail
      go_region_held3 (fun w' => w'.cell? ⟨gl, k * 2, none⟩ = some (.int .i64 x) ∧ w'.cell? ⟨gl, k * 2 + 1, none⟩ = some (.slice ak lk ck)) (first | exact ⟨g1', g2'⟩ | exact ⟨cell_later (below_alloc wr _) g1', cell_later (below_alloc wr _) g2'⟩ | exact ⟨cell_later (below_on (below_alloc wr _) (below_drewN _ 1)) g1', cell_later (below_on (below_alloc wr _) (below_drewN _ 1)) g2'⟩ | exact ⟨(far _).trans g1', (far _).trans g2'⟩)
        (first
          | (refine step_append_lies _ (by rfl) _ _ _ (by rfl) 0 27 i0 (.agg #[.bool false, .int .i64 0, .slice none 0 0]) 3 40 Try.underlying37 hi hz0 hz1 hz2 rfl (by omega) _ k _ (by rfl) (ownsRow_later (ownsRow_later HI.out.row (below_alloc wr (.cells #[.bool false, .int .i64 (26 + x), .slice ak lk ck] 27))) (below_drewN _ 1)) ⟨wr.heap.size, 0, none⟩ 1 1 [.bool false, .int .i64 (26 + x), .slice ak lk ck] (by rfl) (by rfl) (World.news_of_block (cs := #[.bool false, .int .i64 (26 + x), .slice ak lk ck]) (t := 27) (fr := (0, 0)) (heap_alloc_new wr _)) cells3_one (by omega) (by unfold maxLen; omega) (by omega) (Nat.zero_le _) (wr.heap.size + 1) (by simp) ?_; intro g cap w3 hown3 hgrow0 hat hlt3; have hgrow : (wr.alloc (.cells #[.bool false, .int .i64 (26 + x), .slice ak lk ck] 27)).grownBy w3 (Value.slice av k cv).ownBlock := ⟨hgrow0.os, hgrow0.tape, hgrow0.output, hgrow0.size, hgrow0.block⟩; clear hgrow0; have far : ∀ o, w3.cell? ⟨gl, o, none⟩ = wr.cell? ⟨gl, o, none⟩ := fun o => (hgrow.cell_far ⟨gl, o, none⟩ (by simp; omega) (hfar.out gl hglw (by omega))).trans ((bcell (below_alloc wr _)).1 _ _ (by omega))))
      have HS := hide (InAt.step HI.out (by omega) (by rw [HTk.out, HVk.out]; exact hown3) hgrow (by simpa using hat))
      clear hown3 hgrow hat far
      go_wp2
      go_roundw
      case rel => exact ⟨k + 1, hlt, by go_num, ⟨_, _, rfl⟩, HS.out⟩
      case measure => simp [intOf]; omega
    · have hkn : k = n := by omega
      subst hkn
      have HIn := hide (HI.out.inner HInL.out (fun i hi => by rw [HTA.out i hi, HPsA.out i hi]))
      have HPr : Hid (∀ r, (Value.slice av k cv).ownBlock = some r → w.heap.size ≤ r) := fun r hr => by rcases HI.out.blk r hr with h | h <;> omega
      have HOw0 := hide HI.out.row
      have hq0 := (HI.out.below.cell (p := ⟨bh, o, none⟩) hbl).trans hsq
      have hszw := HI.out.size
      have HBw := hide HI.out.below
      have HSlk := hide (HSl.out (wr.drewN 1) (below_on HBw.out (below_drewN wr 1)))
      have HHk := hide (HHd.out (wr.drewN 1))
      have hpl : (packL (s + 1) q []).length = 64 := packL_len (by simp)
      rw [hpl] at HHk
      generalize (s + 1) % 2 = p at HHk HT1
      generalize packL (s + 1) q [] = ws at HHk HT1
      clear hpl HI
      go_wp2_with fail
      go_region_held3 (fun w' => w'.cell? ⟨bh, o, none⟩ = some (.int .i64 s)) (first | exact hq0 | exact e0 | exact s0)
        (first
          | (go_at_call 87; refine HSlk.out.mono ?_; rintro e wq ⟨rfl, rfl⟩)
          | (refine step_append_lies _ (by rfl) _ _ _ (by rfl) 0 27 i0 (.agg #[.bool false, .int .i64 0, .slice none 0 0]) 3 40 Try.underlying37 hi hz0 hz1 hz2 rfl (by omega) _ k _ (by rfl) (ownsRow_later (ownsRow_later HOw0.out HB4.out) (below_alloc w4 (.cells (nine p (.slice a4 64 k4)).toArray 27))) ⟨w4.heap.size, 0, none⟩ 3 3 (nine p (.slice a4 64 k4)) (by rfl) (by rfl) (World.news_of_block (cs := (nine p (.slice a4 64 k4)).toArray) (t := 27) (fr := (0, 0)) (heap_alloc_new w4 _)) cells9_one (by omega) (by unfold maxLen; omega) (by omega) (Nat.zero_le _) (w4.heap.size + 1) (by simp) ?_; intro g cap w6 hown6 hgrow hat hlt6; have s0 := (hgrow.cell_far ⟨bh, o, none⟩ (by simp; omega) (fun e => by have := HPr.out _ e.symm; dsimp only at this; omega)).trans e0)
          | (go_at_call 93; (try rw [hws]); refine HHk.out.mono ?_; rintro e w5 ⟨g5, a4, k4, w4, rfl, hb4, ho4, rfl, rfl⟩; have e0 := cell_later (below_alloc w4 (.cells (nine p (.slice a4 64 k4)).toArray 27)) (cell_later hb4 hq0); have HB4 := hide (below_on (below_drewN wr 1) hb4); have HO4 := hide ho4; have hz4 : wr.heap.size ≤ w4.heap.size := hb4.size; clear hb4 ho4))
      have HS := hide (BuiltT.three (P' := (w.heap.size ≤ ·)) HIn.out HOw0.out HPr.out HT0.out HT1.out HT2.out (fun b hb => hb) (fun b hb => by omega) HB4.out HO4.out (below_alloc w4 (.cells (nine p (.slice a4 64 k4)).toArray 27)) hown6 hgrow (by simpa using hat))
      have HB6 := hide ((below_on (below_on HBw.out HB4.out) (below_alloc w4 (.cells (nine p (.slice a4 64 k4)).toArray 27))).grown hgrow (by simp; omega) (fun r hr => HPr.out r hr))
      clear hown6 hgrow hat s0 e0
      go_wp2
      go_ret
      exact ⟨_, rfl, HB6.out, HS.out⟩
end Go.Proofs.Ytaccllclihbpfab
