/- Inst3 PlanB in one text: what each says stands at its head below. -/
import Derived.Test.YtamknomapabmfaaGreatG15
import Derived.Test.YtamknomapabmfaaGreatG16
import Derived.Test.YtamknomapabmfaaGreatG22
import Derived.Test.YtamknomapabmfaaGreatG21
/- Chapter 3, the model's side: 'l3Head' and 'l3Install', walked. -/
namespace Go.Proofs.YtamknomapabmfaaGreat
open Go.RowKit

/-- The nine cells of a flush, a header and a flush. -/
def nine (p : Int) (z : Value) : List Value := [.bool true, .int .i64 0, .slice none 0 0, .bool false, .int .i64 p, z, .bool true, .int .i64 0, .slice none 0 0]

set_option maxHeartbeats 1000000 in
set_option maxRecDepth 4000 in
/-- 'l3Head' of a header: where its nine cells lie. -/
theorem l3Head {S : Nat → Prop} {w : World} {y : Value} {xs : List Int} (s t : Int) (hy : RdI S w y xs) (hl : xs.length ≤ 24) (hs : 0 ≤ s) :
    Calls Tryz.prog 83 #[.agg #[.int .i64 s, .int .i64 t, y]] w fun e w' => ∃ g a4 k4 w4, e = .returned (.slice (some ⟨g, 0, none⟩) 3 3) ∧ Below w.heap.size w w4 ∧ OwI w.heap.size w4 (.slice a4 (packL s t xs).length k4) (packL s t xs) ∧ g = w4.heap.size ∧ w' = w4.alloc (.cells (nine (s % 2) (.slice a4 (packL s t xs).length k4)).toArray 115) := by
  obtain ⟨ay, cy, rfl⟩ := hy.shape
  have hmod : Int.tmod s 2 = s % 2 := Int.tmod_eq_emod_of_nonneg hs
  obtain ⟨l, hl'⟩ : ∃ l, xs.length = l := ⟨_, rfl⟩
  obtain ⟨W, hW⟩ : ∃ W, w.alloc (.cells #[.int .i64 s, .int .i64 t, .slice ay l cy] 102) = W := ⟨_, rfl⟩
  have BW : Hid (Below w.heap.size w W) := by rw [← hW]; exact below_alloc _ _
  have hHd : HdAt W w.heap.size 0 s t (.slice ay l cy) := by rw [← hW]; exact HdAt_new _ _ _ _ _
  rw [hl'] at hy ⊢
  have HPk := hide (l2Pack (w := W.drewN 1) ⟨hHd.seq, hHd.start, hHd.addrs⟩ ((hy.later BW.out).drewN 1) (by omega))
  have c0 := hHd.seq
  have hWs : w.heap.size < W.heap.size := World.block_lt_of_cell? _ _ c0
  generalize packL s t xs = ws at HPk ⊢
  obtain ⟨p, hp⟩ : ∃ p, s % 2 = p := ⟨_, rfl⟩
  rw [hp] at hmod ⊢
  clear hy hp hl' hHd
  go_enter Tryz.func83, Tryz.ntmps83
  go_wp2_with fail
  go_region_held3 (fun w' => w'.cell? ⟨w.heap.size, 0, none⟩ = some (.int .i64 s)) (first | exact c0 | exact e0 | exact cell_later (below_alloc w4 _) e0)
    (first | (go_at_call 66; refine HPk.out.mono ?_; rintro e w4 ⟨z4, rfl, hb4, ho4⟩; obtain ⟨a4, k4, rfl⟩ := ho4.shape; have e0 := cell_later hb4 c0; have HB4 := hide (below_on (below_drewN W 1) hb4); have HO4 := hide ho4; clear hb4 ho4))
  go_wp2
  go_ret
  have hz := BW.out.size
  exact ⟨_, a4, k4, w4, rfl, below_on BW.out HB4.out, HO4.out.mono (by simpa using hz), rfl, rfl⟩


/-- The steps of an install. -/
def insTs (xss : List (List Int)) (ps : List (Int × List Int)) (s t : Int) (A : List Int) : List St :=
  ((List.range A.length).map fun (i : Nat) => ((false, 26 + A.getD i 0, slotW xss ps t (i : Int)) : St)) ++ [(true, 0, []), (false, (s + 1) % 2, packL (s + 1) ((t + (A.length : Int)) % 24) []), (true, 0, [])]
theorem insTs_len (xss : List (List Int)) (ps : List (Int × List Int)) (s t : Int) (A : List Int) : (insTs xss ps s t A).length = A.length + 3 := by simp [insTs]
theorem insTs_at (xss : List (List Int)) (ps : List (Int × List Int)) (s t : Int) (A : List Int) (i : Nat) (h : i < A.length) : (insTs xss ps s t A).getD i st0 = (false, 26 + A.getD i 0, slotW xss ps t (i : Int)) := by
  unfold insTs
  rw [List.getD, List.getElem?_append_left (by simpa using h)]
  simp [h]
theorem insTs_0 (xss : List (List Int)) (ps : List (Int × List Int)) (s t : Int) (A : List Int) : (insTs xss ps s t A).getD A.length st0 = (true, 0, []) := by
  unfold insTs
  rw [List.getD, List.getElem?_append_right (by simp)]
  simp
theorem insTs_1 (xss : List (List Int)) (ps : List (Int × List Int)) (s t : Int) (A : List Int) : (insTs xss ps s t A).getD (A.length + 1) st0 = (false, (s + 1) % 2, packL (s + 1) ((t + (A.length : Int)) % 24) []) := by
  unfold insTs
  rw [List.getD, List.getElem?_append_right (by simp)]
  simp
theorem insTs_2 (xss : List (List Int)) (ps : List (Int × List Int)) (s t : Int) (A : List Int) : (insTs xss ps s t A).getD (A.length + 2) st0 = (true, 0, []) := by
  unfold insTs
  rw [List.getD, List.getElem?_append_right (by simp)]
  simp

/-- While steps are made out of a log: the log stays, the steps share its words. -/
structure InAt (w w1 : World) (ts : List St) (V : Nat → Value) (k : Nat) (v : Value) (wr : World) : Prop where
  row : wr.ownsRow 0 115 3 v k (cellsT ts k V)
  blk : ∀ r, v.ownBlock = some r → r = w.heap.size ∨ w1.heap.size ≤ r
  size : w1.heap.size ≤ wr.heap.size
  keep : ∀ b, b < w1.heap.size → b ≠ w.heap.size → wr.heap[b]? = w1.heap[b]?
  below : Below w.heap.size w wr
theorem InAt.cell {w w1 : World} {ts : List St} {V : Nat → Value} {k : Nat} {v : Value} {wr : World} (H : InAt w w1 ts V k v wr) {b o : Nat} {x : Value} (h : w1.cell? ⟨b, o, none⟩ = some x) (hb : b ≠ w.heap.size) : wr.cell? ⟨b, o, none⟩ = some x :=
  (World.cell?_of_block (H.keep b (World.block_lt_of_cell? _ _ h) hb)).trans h
theorem InAt.step {w w1 : World} {ts : List St} {V : Nat → Value} {k g cap : Nat} {v : Value} {wr w3 : World} {o : Obj} (H : InAt w w1 ts V k v wr) (hs : w.heap.size < w1.heap.size)
    (hown : w3.ownsRow 0 115 3 (.slice (some ⟨g, 0, none⟩) (k + 1) cap) (k + 1) (cellsT ts k V ++ [.bool (ts.getD k st0).1, .int .i64 (ts.getD k st0).2.1, V k])) (hg : (wr.alloc o).grownBy w3 v.ownBlock) (hat : v.ownBlock = some g ∨ g = (wr.alloc o).heap.size) :
    InAt w w1 ts V (k + 1) (.slice (some ⟨g, 0, none⟩) (k + 1) cap) w3 := by
  have h1 := H.size
  have h2 := hg.size
  simp only [World.size_alloc] at h2
  refine ⟨by rw [cellsT_next]; exact hown, fun r hr => ?_, by omega, fun b hb hne => ?_, ?_⟩
  · injection hr with hr
    subst hr
    rcases hat with hat | hat
    · exact H.blk _ hat
    · exact Or.inr (by dsimp only; simp at hat; omega)
  · rw [hg.block b (by simp; omega) (fun e => by rcases H.blk b e.symm with h | h <;> omega), Below.heap_alloc _ _ _ (by omega)]
    exact H.keep b hb hne
  · exact (H.below.trans ((below_alloc wr o).mono (by omega))).grown hg (by simp; omega) (fun r hr => by rcases H.blk r hr with h | h <;> omega)

/-- What the steps stand on, once they have all been made. -/
theorem InAt.inner {w w1 : World} {ts : List St} {V : Nat → Value} {Bk : Nat → Nat} {k : Nat} {v z : Value} {wr : World} {lps : List (Int × List Int)} (H : InAt w w1 ts V k v wr) (hin : Inner (fun b => w.heap.size + 1 ≤ b) w1 z.ownBlock k V Bk (fun i => (lps.getD i (0, [])).2)) (hw : ∀ i, i < k → (ts.getD i st0).2.2 = (lps.getD i (0, [])).2) :
    Inner (fun b => w.heap.size ≤ b) wr v.ownBlock k V Bk (fun i => (ts.getD i st0).2.2) := by
  refine ⟨fun i hi => ?_, fun i hi hn => ?_⟩
  · have h := hin.rd i hi
    rw [hw i hi]
    obtain ⟨ao, c, e1, e2, e3⟩ := h
    refine ⟨ao, c, e1, e2, fun hne => ?_⟩
    obtain ⟨b, off, f1, f2, f3⟩ := e3 hne
    have hb := (hin.own i hi hne).1
    exact ⟨b, off, f1, f2, fun j hj => H.cell (f3 j hj) (by rw [f2]; omega)⟩
  · rw [hw i hi] at hn
    obtain ⟨h1, h2, h3, h4, h5⟩ := hin.own i hi hn
    have hsz := H.size
    refine ⟨by omega, by omega, fun o => (World.frozen?_of_block (H.keep (Bk i) h2 (by omega))).trans (h3 o), fun e => ?_, fun j hj hj' ej => h5 j hj (by rw [← hw j hj]; exact hj') ej⟩
    rcases H.blk _ e with h | h <;> omega


set_option maxHeartbeats 4000000 in
set_option maxRecDepth 4000 in
/-- 'spec.l3Install' of a disk and its header. -/
theorem l3Install {S T S3 : Nat → Prop} {w : World} {bd bh o : Nat} {u v y : Value} {xss : List (List Int)} {ps : List (Int × List Int)} {s t : Int} {A : List Int} (hd0 : w.cell? ⟨bd, 0, none⟩ = some u) (hd1 : w.cell? ⟨bd, 1, none⟩ = some v) (hu : RdII S w u xss) (hv : RdP T w v ps) (hs : Small xss ps) (h66 : xss.length = 66)
    (hh : HdAt w bh o s t y) (hA : RdI S3 w y A) (hhd : headF s t A = 0) (hs2 : s < 65000) :
    Calls Tryz.prog 70 #[.pointer (some ⟨bd, 0, none⟩), .pointer (some ⟨bh, o, none⟩)] w fun e w' => ∃ z, e = .returned z ∧ Below w.heap.size w w' ∧ BuiltT (w.heap.size ≤ ·) w' z (A.length + 3) (insTs xss ps s t A) := by
  obtain ⟨⟨hs1, _, ht, ht'⟩, hl24, hA39⟩ := headF_zero hhd
  obtain ⟨i0, hi, hz0, hz1, hz2⟩ := info_parts Tryz.infoStep
  have A0 := hide (below_alloc w (.cells #[] 115))
  have HLg := hide (l3Log (cell_later A0.out hd0) (cell_later A0.out hd1) (hu.later A0.out) (hv.later A0.out) hs h66 (hh.later A0.out) (hA.later A0.out) ht ht' hl24)
  have HSl := hide (fun (w' : World) (hb : Below w.heap.size w w') => l3Slot (A.length : Int) w' (hh.later hb) ht ht' (by omega) (by omega))
  have HPsL := hide (logPs_len xss ps t A)
  have HPsA := hide (logPs_at xss ps t A)
  have HTA := hide (insTs_at xss ps s t A)
  have HT0 := hide (insTs_0 xss ps s t A)
  have HT1 := hide (insTs_1 xss ps s t A)
  have HT2 := hide (insTs_2 xss ps s t A)
  have hsq := hh.seq
  generalize logPs xss ps t A = lps at HLg HPsL HPsA
  generalize insTs xss ps s t A = ts at HTA HT0 HT1 HT2 ⊢
  have hq1 : 0 ≤ (t + (A.length : Int)) % 24 := by omega
  generalize (t + (A.length : Int)) % 24 = q at HSl HT1 hq1
  have HA39 := hide hA39
  obtain ⟨n, hn⟩ : ∃ n, A.length = n := ⟨_, rfl⟩
  have HN := hide hn
  rw [hn] at HLg HSl HPsL HPsA HTA HT0 HT1 HT2 hl24 HA39 ⊢
  have hws : IntKind.i64.wrap (s + 1) = s + 1 := by simp [IntKind.wrap, IntKind.bits, IntKind.signed]; omega
  have HHd := hide (fun (w' : World) => l3Head (w := w') (s + 1) q (RdI_nil (fun _ => True) w' none 0) (by simp) (by omega))
  have hbl := World.block_lt_of_cell? _ _ hsq
  clear hd0 hd1 hu hv hs h66 hh hA hhd hA39 hn
  go_enter Tryz.func70, Tryz.ntmps70
  go_wp2_with fail
  refine HLg.out.mono ?_
  rintro e w1 ⟨zl, rfl, hb1, ho1⟩
  obtain ⟨V, Bk, hownL, hprL, hinL⟩ := ho1
  obtain ⟨al, cl, rfl⟩ := BuiltP.shape ⟨V, Bk, hownL, hprL, hinL⟩
  have hs1' : w.heap.size + 1 ≤ w1.heap.size := by have := hb1.size; simpa using this
  have HLog : Hid (∀ k, k < n → ∃ gl, al = some ⟨gl, 0, none⟩ ∧ w1.cell? ⟨gl, k * 2, none⟩ = some (.int .i64 (lps.getD k (0, [])).1) ∧ w1.cell? ⟨gl, k * 2 + 1, none⟩ = some (V k) ∧ w.heap.size + 1 ≤ gl) := by
    intro k hk
    rcases hownL.2 with ⟨_, e⟩ | ⟨g, cap, cur, e, hg, hh', _⟩
    · omega
    · injection e with e1 e2 e3
      subst e1
      refine ⟨g, rfl, ?_, ?_, by have := hprL g rfl; simpa using this⟩
      · subst e3
        rw [hownL.cellAt (k * 2) (by omega)]
        exact cellsP_num _ _ _ _ hk
      · subst e3
        rw [hownL.cellAt (k * 2 + 1) (by omega)]
        exact cellsP_words _ _ _ _ hk
  have HInL : Hid (Inner (fun b => w.heap.size + 1 ≤ b) w1 (Value.slice al n cl).ownBlock n V Bk (fun i => (lps.getD i (0, [])).2)) := hinL.mono (fun b hb _ => by simpa using hb)
  have HI0 : Hid (InAt w w1 ts V 0 (.slice (some ⟨w.heap.size, 0, none⟩) 0 0) w1) :=
    ⟨ownsRow_later (World.ownsRow_made w #[] 0 (Nat.zero_le _) (by unfold maxLen; omega) (by simp)) hb1, fun r hr => by injection hr with hr; exact Or.inl hr.symm, Nat.le_refl _, fun _ _ _ => rfl, below_on A0.out hb1⟩
  clear hb1 hownL hprL hinL
  go_wp2
  go_loopw [5, 7] (fun v i wr => ∃ k : Nat, k ≤ n ∧ i = .int .i64 k ∧ Hid (∃ av cv, v = .slice av k cv) ∧ Hid (InAt w w1 ts V k v wr)) (fun _ i _ => n - (intOf i).toNat)
  case atStart => exact ⟨0, Nat.zero_le _, rfl, ⟨_, _, rfl⟩, HI0.out⟩
  case round =>
    obtain ⟨k, hk, rfl, HSh, HI⟩ := hrel
    obtain ⟨av, cv, rfl⟩ := HSh.out
    by_cases hlt : k < n
    · obtain ⟨gl, rfl, g1, g2, hgl⟩ := HLog.out k hlt
      obtain ⟨ak, ck, hVk⟩ := (HInL.out.rd k hlt).shape
      have g1' := HI.out.cell g1 (by omega)
      have g2' := HI.out.cell g2 (by omega)
      obtain ⟨x, hx⟩ : ∃ x, (lps.getD k (0, [])).1 = x := ⟨_, rfl⟩
      obtain ⟨lk, hlk⟩ : ∃ lk, (lps.getD k (0, [])).2.length = lk := ⟨_, rfl⟩
      rw [hlk] at hVk
      rw [hx] at g1'
      rw [hVk] at g2'
      have hxA : A.getD k 0 = x := by rw [← hx, HPsA.out k hlt]
      have hx39 := HA39.out k hlt
      rw [hxA] at hx39
      have HTk := hide (HTA.out k hlt)
      rw [hxA] at HTk
      have HVk := hide hVk
      have hwx : IntKind.i64.wrap (26 + x) = 26 + x := by simp [IntKind.wrap, IntKind.bits, IntKind.signed]; omega
      have hk0 : (0 : Int) ≤ (k : Int) := Int.natCast_nonneg _
      have hk1 : (k : Int) < (n : Int) := by omega
      have hszw := HI.out.size
      have hglw := World.block_lt_of_cell? _ _ g1
      have hfar : Hid (∀ b, b < w1.heap.size → b ≠ w.heap.size → some b ≠ (Value.slice av k cv).ownBlock) := fun b h1 h2 e => by rcases HI.out.blk b e.symm with h | h <;> omega
      clear g1 g2 hVk hx hlk hxA
      go_wp2_with fail
      go_region_held3 (fun w' => w'.cell? ⟨gl, k * 2, none⟩ = some (.int .i64 x) ∧ w'.cell? ⟨gl, k * 2 + 1, none⟩ = some (.slice ak lk ck)) (first | exact ⟨g1', g2'⟩ | exact ⟨cell_later (below_alloc wr _) g1', cell_later (below_alloc wr _) g2'⟩ | exact ⟨cell_later (below_on (below_alloc wr _) (below_drewN _ 1)) g1', cell_later (below_on (below_alloc wr _) (below_drewN _ 1)) g2'⟩ | exact ⟨(far _).trans g1', (far _).trans g2'⟩)
        (first
          | (refine step_append_lies _ (by rfl) _ _ _ (by rfl) 0 115 i0 (.agg #[.bool false, .int .i64 0, .slice none 0 0]) 3 40 Tryz.underlying86 hi hz0 hz1 hz2 rfl (by omega) _ k _ (by rfl) (ownsRow_later (ownsRow_later HI.out.row (below_alloc wr (.cells #[.bool false, .int .i64 (26 + x), .slice ak lk ck] 115))) (below_drewN _ 1)) ⟨wr.heap.size, 0, none⟩ 1 1 [.bool false, .int .i64 (26 + x), .slice ak lk ck] (by rfl) (by rfl) (World.news_of_block (cs := #[.bool false, .int .i64 (26 + x), .slice ak lk ck]) (t := 115) (fr := (0, 0)) (heap_alloc_new wr _)) cells3_one (by omega) (by unfold maxLen; omega) (by omega) (Nat.zero_le _) (wr.heap.size + 1) (by simp) ?_; intro g cap w3 hown3 hgrow0 hat hlt3; have hgrow : (wr.alloc (.cells #[.bool false, .int .i64 (26 + x), .slice ak lk ck] 115)).grownBy w3 (Value.slice av k cv).ownBlock := ⟨hgrow0.os, hgrow0.tape, hgrow0.output, hgrow0.size, hgrow0.block⟩; clear hgrow0; have far : ∀ o, w3.cell? ⟨gl, o, none⟩ = wr.cell? ⟨gl, o, none⟩ := fun o => (hgrow.cell_far ⟨gl, o, none⟩ (by simp; omega) (hfar.out gl hglw (by omega))).trans ((bcell (below_alloc wr _)).1 _ _ (by omega))))
      have HS := hide (InAt.step HI.out (by omega) (by rw [HTk.out, HVk.out]; exact hown3) hgrow (by simpa using hat))
      clear hown3 hgrow hat far
      go_wp2
      go_roundw
      case rel => exact ⟨k + 1, hlt, by go_num, ⟨_, _, rfl⟩, HS.out⟩
      case measure => simp [intOf]; omega
    · have hkn : k = n := by omega
      subst hkn
      have HIn := hide (HI.out.inner HInL.out (fun i hi => by rw [HTA.out i hi, HPsA.out i hi]))
      have HPr : Hid (∀ r, (Value.slice av k cv).ownBlock = some r → w.heap.size ≤ r) := fun r hr => by rcases HI.out.blk r hr with h | h <;> omega
      have HOw0 := hide HI.out.row
      have hq0 := (HI.out.below.cell (p := ⟨bh, o, none⟩) hbl).trans hsq
      have hszw := HI.out.size
      have HBw := hide HI.out.below
      have HSlk := hide (HSl.out (wr.drewN 1) (below_on HBw.out (below_drewN wr 1)))
      have HHk := hide (HHd.out (wr.drewN 1))
      have hpl : (packL (s + 1) q []).length = 64 := packL_len (by simp)
      rw [hpl] at HHk
      generalize (s + 1) % 2 = p at HHk HT1
      generalize packL (s + 1) q [] = ws at HHk HT1
      clear hpl HI
      go_wp2_with fail
      go_region_held3 (fun w' => w'.cell? ⟨bh, o, none⟩ = some (.int .i64 s)) (first | exact hq0 | exact e0 | exact s0)
        (first
          | (go_at_call 82; refine HSlk.out.mono ?_; rintro e wq ⟨rfl, rfl⟩)
          | (refine step_append_lies _ (by rfl) _ _ _ (by rfl) 0 115 i0 (.agg #[.bool false, .int .i64 0, .slice none 0 0]) 3 40 Tryz.underlying86 hi hz0 hz1 hz2 rfl (by omega) _ k _ (by rfl) (ownsRow_later (ownsRow_later HOw0.out HB4.out) (below_alloc w4 (.cells (nine p (.slice a4 64 k4)).toArray 115))) ⟨w4.heap.size, 0, none⟩ 3 3 (nine p (.slice a4 64 k4)) (by rfl) (by rfl) (World.news_of_block (cs := (nine p (.slice a4 64 k4)).toArray) (t := 115) (fr := (0, 0)) (heap_alloc_new w4 _)) cells9_one (by omega) (by unfold maxLen; omega) (by omega) (Nat.zero_le _) (w4.heap.size + 1) (by simp) ?_; intro g cap w6 hown6 hgrow hat hlt6; have s0 := (hgrow.cell_far ⟨bh, o, none⟩ (by simp; omega) (fun e => by have := HPr.out _ e.symm; dsimp only at this; omega)).trans e0)
          | (go_at_call 83; (try rw [hws]); refine HHk.out.mono ?_; rintro e w5 ⟨g5, a4, k4, w4, rfl, hb4, ho4, rfl, rfl⟩; have e0 := cell_later (below_alloc w4 (.cells (nine p (.slice a4 64 k4)).toArray 115)) (cell_later hb4 hq0); have HB4 := hide (below_on (below_drewN wr 1) hb4); have HO4 := hide ho4; have hz4 : wr.heap.size ≤ w4.heap.size := hb4.size; clear hb4 ho4))
      have HS := hide (BuiltT.three (P' := (w.heap.size ≤ ·)) HIn.out HOw0.out HPr.out HT0.out HT1.out HT2.out (fun b hb => hb) (fun b hb => by omega) HB4.out HO4.out (below_alloc w4 (.cells (nine p (.slice a4 64 k4)).toArray 115)) hown6 hgrow (by simpa using hat))
      have HB6 := hide ((below_on (below_on HBw.out HB4.out) (below_alloc w4 (.cells (nine p (.slice a4 64 k4)).toArray 115))).grown hgrow (by simp; omega) (fun r hr => HPr.out r hr))
      clear hown6 hgrow hat s0 e0
      go_wp2
      go_ret
      exact ⟨_, rfl, HB6.out, HS.out⟩
end Go.Proofs.YtamknomapabmfaaGreat
/- Chapter 3, the model's side: 'l3Append', walked: steps and addresses grow side by side. -/
namespace Go.Proofs.YtamknomapabmfaaGreat
open Go.RowKit

theorem ownsRow_keep {w w' : World} {B e s n : Nat} {v : Value} {xs : List Value} (h : w.ownsRow B e s v n xs) (hk : ∀ b, b < w.heap.size → v.ownBlock = some b → w'.heap[b]? = w.heap[b]?) : w'.ownsRow B e s v n xs := by
  obtain ⟨h1, h2⟩ := h
  refine ⟨h1, ?_⟩
  rcases h2 with h2 | ⟨g, cap, cur, hv, hg, hh, q⟩
  · exact Or.inl h2
  · exact Or.inr ⟨g, cap, cur, hv, hg, by rw [hk g (Array.getElem?_eq_some_iff.1 hh).1 (by rw [hv]; rfl)]; exact hh, q⟩
theorem Inner.keep {P : Nat → Prop} {w w' : World} {row : Option Nat} {k : Nat} {V : Nat → Value} {Bk : Nat → Nat} {X : Nat → List Int} (h : Inner P w row k V Bk X) (hs : w.heap.size ≤ w'.heap.size) (hk : ∀ b, b < w.heap.size → P b → w'.heap[b]? = w.heap[b]?) : Inner P w' row k V Bk X := by
  refine ⟨fun i hi => ?_, fun i hi hn => ?_⟩
  · obtain ⟨ao, c, e1, e2, e3⟩ := h.rd i hi
    refine ⟨ao, c, e1, e2, fun hne => ?_⟩
    obtain ⟨b, off, f1, f2, f3⟩ := e3 hne
    obtain ⟨h1, h2, _⟩ := h.own i hi hne
    subst f2
    exact ⟨_, off, f1, rfl, fun j hj => (World.cell?_of_block (hk _ h2 h1)).trans (f3 j hj)⟩
  · obtain ⟨h1, h2, h3, h4, h5⟩ := h.own i hi hn
    exact ⟨h1, by omega, fun o => (World.frozen?_of_block (hk _ h2 h1)).trans (h3 o), h4, h5⟩
theorem BuiltT.keep {P : Nat → Prop} {w w' : World} {v : Value} {k : Nat} {ts : List St} (h : BuiltT P w v k ts) (hs : w.heap.size ≤ w'.heap.size) (hk : ∀ b, b < w.heap.size → P b → w'.heap[b]? = w.heap[b]?) : BuiltT P w' v k ts := by
  obtain ⟨V, Bk, h1, h2, h3⟩ := h
  exact ⟨V, Bk, ownsRow_keep h1 (fun b hb e => hk b hb (h2 b e)), h2, h3.keep hs hk⟩

/-- While steps and the addresses of the next header grow. -/
structure ApAt (w : World) (N : Nat) (s t : Int) (L : List Int) (n : Nat) (ao : Option Addr) (c : Nat) (v : Value) (k : Nat) (ts : List St) (wr : World) : Prop where
  own : wr.ownsRow w.heap.size 2 1 (.slice ao n c) n (L.map (Value.int .i64))
  below : Below w.heap.size w wr
  hd : HdAt wr N 0 s t (.slice ao n c)
  ge : w.heap.size ≤ N
  lt : N < wr.heap.size
  fr : ∀ o, wr.frozen? ⟨N, o, none⟩ = false
  ne : (Value.slice ao n c).ownBlock ≠ some N
  out : BuiltT (fun b => w.heap.size ≤ b ∧ b ≠ N ∧ (Value.slice ao n c).ownBlock ≠ some b) wr v k ts
theorem ApAt.put {w wr w1 w2 w3 : World} {N n c k g cap : Nat} {s t : Int} {L : List Int} {ao : Option Addr} {v z : Value} {ts : List St} {V : Nat → Value} {Bk : Nat → Nat} (h : ApAt w N s t L n ao c v k ts wr)
    (hin : Inner (fun b => w.heap.size ≤ b ∧ b ≠ N ∧ (Value.slice ao n c).ownBlock ≠ some b) wr v.ownBlock k V Bk (fun i => (ts.getD i st0).2.2)) (hr : wr.ownsRow 0 115 3 v k (cellsT ts k V)) (hpr : ∀ r, v.ownBlock = some r → w.heap.size ≤ r ∧ r ≠ N ∧ (Value.slice ao n c).ownBlock ≠ some r)
    (hb1 : Below wr.heap.size wr w1) (hz : OwI wr.heap.size w1 z (ts.getD k st0).2.2) (hb2 : Below w1.heap.size w1 w2)
    (hown : w3.ownsRow 0 115 3 (.slice (some ⟨g, 0, none⟩) (k + 1) cap) (k + 1) (cellsT ts k V ++ [.bool (ts.getD k st0).1, .int .i64 (ts.getD k st0).2.1, z])) (hg : w2.grownBy w3 v.ownBlock) (hat : v.ownBlock = some g ∨ g = w2.heap.size) :
    ApAt w N s t L n ao c (.slice (some ⟨g, 0, none⟩) (k + 1) cap) (k + 1) ts w3 := by
  have z0 := h.below.size
  have z1 := hb1.size
  have z2 := hb2.size
  have z3 := hg.size
  have zN := h.lt
  have K : ∀ b, b < wr.heap.size → v.ownBlock ≠ some b → w3.heap[b]? = wr.heap[b]? := fun b hb hne => (hg.block b (by omega) (Ne.symm hne)).trans ((hb2.block b (by omega)).trans (hb1.block b hb))
  have hvN : v.ownBlock ≠ some N := fun e => (hpr N e).2.1 rfl
  have KN := K N zN hvN
  refine ⟨ownsRow_keep h.own (fun b hb e => K b hb (fun e' => (hpr b e').2.2 e)), (below_on (below_on h.below hb1) hb2).grown hg (by omega) (fun r hr' => (hpr r hr').1), ⟨(World.cell?_of_block KN).trans h.hd.seq, (World.cell?_of_block KN).trans h.hd.start, (World.cell?_of_block KN).trans h.hd.addrs⟩, h.ge, by omega, fun o => (World.frozen?_of_block KN).trans (h.fr o), h.ne, ?_⟩
  exact BuiltT.step hin hr hpr (fun _ hh => hh) (fun b hb => ⟨by omega, by omega, fun e => by have := (h.own.lt b e).2; omega⟩) hb1 hz hb2 hown hg hat
theorem ApAt.addr {w wr U w3 : World} {N n c k g cap : Nat} {s t x : Int} {L : List Int} {ao : Option Addr} {v : Value} {ts : List St} (h : ApAt w N s t L n ao c v k ts wr) (hb : Below wr.heap.size wr U)
    (hown : w3.ownsRow w.heap.size 2 1 (.slice (some ⟨g, 0, none⟩) (n + 1) cap) (n + 1) ((L.map (Value.int .i64)) ++ [.int .i64 x])) (hg : U.grownBy w3 (Value.slice ao n c).ownBlock) (hat : (Value.slice ao n c).ownBlock = some g ∨ g = U.heap.size) :
    ApAt w N s t (L ++ [x]) (n + 1) (some ⟨g, 0, none⟩) cap v k ts (w3.setCell ⟨N, 2, none⟩ (.slice (some ⟨g, 0, none⟩) (n + 1) cap)) := by
  have hz := hb.size
  have hz3 := hg.size
  have hlt := h.lt
  have hge := h.ge
  have z0 := h.below.size
  have hNU : N < U.heap.size := Nat.lt_of_lt_of_le h.lt hz
  have hgN : g ≠ N := by
    rcases hat with e | e
    · intro e2; exact h.ne (by rw [e, e2])
    · omega
  have cN : ∀ o, w3.cell? ⟨N, o, none⟩ = wr.cell? ⟨N, o, none⟩ := fun o => (World.cell?_of_block (hg.block N hNU (Ne.symm h.ne))).trans ((bcell hb).1 _ _ h.lt)
  have fN : ∀ o, w3.frozen? ⟨N, o, none⟩ = wr.frozen? ⟨N, o, none⟩ := fun o => (World.frozen?_of_block (hg.block N hNU (Ne.symm h.ne))).trans ((bcell hb).2 _ _ h.lt)
  have hoth : ∀ b o, b ≠ N ∨ o ≠ 2 → (w3.setCell ⟨N, 2, none⟩ (.slice (some ⟨g, 0, none⟩) (n + 1) cap)).cell? ⟨b, o, none⟩ = w3.cell? ⟨b, o, none⟩ := fun b o hne => World.cell?_setCell_other _ _ _ _ (by intro e; injection e with e1 e2; rcases hne with h1 | h1 <;> simp_all)
  have hw : Wr (fun y => y = N) w3 (w3.setCell ⟨N, 2, none⟩ (.slice (some ⟨g, 0, none⟩) (n + 1) cap)) := (Wr.refl (fun y => y = N) _).setCell (p := ⟨N, 2, none⟩) rfl _
  refine ⟨?_, ?_, ⟨?_, ?_, ?_⟩, hge, ?_, ?_, ?_, ?_⟩
  · exact ownsRow_wr1 (by simpa using hown) (by simp [Value.ownBlock]; exact hgN)
  · exact ((below_on h.below hb).grown hg (by omega) (fun r hr => by have := (h.own.lt r hr).1; omega)).setCell (p := ⟨N, 2, none⟩) (by show w.heap.size ≤ N; omega) _
  · rw [hoth _ _ (Or.inr (by omega)), cN]; exact h.hd.seq
  · rw [hoth _ _ (Or.inr (by omega)), cN]; exact h.hd.start
  · have h2 := h.hd.addrs
    simp only [Nat.zero_add] at h2 ⊢
    have := cN 2
    rw [h2] at this
    simp [go_sem, this]
  · simp; omega
  · intro o; simp [go_sem, fN, h.fr]
  · simp [Value.ownBlock]; exact hgN
  · have o1 : BuiltT (fun b => (w.heap.size ≤ b ∧ b ≠ N ∧ (Value.slice ao n c).ownBlock ≠ some b) ∧ b ≠ g) wr v k ts := h.out.mono (fun b hP hlt' => ⟨hP, by
      rcases hat with e | e
      · intro e2; exact hP.2.2 (by rw [e, e2])
      · omega⟩)
    refine (o1.keep (w' := w3.setCell ⟨N, 2, none⟩ (.slice (some ⟨g, 0, none⟩) (n + 1) cap)) (by simp; omega) (fun b hb' hP => ?_)).mono (fun b hP _ => ⟨hP.1.1, hP.1.2.1, by simp [Value.ownBlock]; exact fun e => hP.2 e.symm⟩)
    exact (hw.block b (by omega) (fun e => hP.1.2.1 e)).trans ((hg.block b (by omega) (Ne.symm hP.1.2.2)).trans (hb.block b hb'))
end Go.Proofs.YtamknomapabmfaaGreat
