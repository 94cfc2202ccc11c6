/- Chapter 2, the program's side: 'impl.appendHalf', 'impl.PackHeader', walked. -/
import Derived.Test.YtkdbkkhmaiomkaaImpl2b
namespace Go.Proofs.Ytkdbkkhmaiomkaa
open Go.RowKit

theorem index_u16 {L : List Int} {k : Nat} (w : World) (hL : L.length = 32) (h : k < 32) : (Instr.index 60 (.agg (u16s L).toArray) (.int .i64 k)).run Try.prog w = .ok (.int .u16 (L.getD k 0)) w := by
  obtain ⟨i1, h1, h2⟩ : ∃ i, Try.prog.info? 58 = some i ∧ i.size = 1 := by
    have : (Try.prog.info? 58).map (·.size) = some 1 := by kernel_rfl
    cases hq : Try.prog.info? 58 with
    | none => rw [hq] at this; cases this
    | some i => rw [hq] at this; exact ⟨i, rfl, by simpa using this⟩
  have h3 : (u16s L)[k]? = some (.int .u16 (L.getD k 0)) := u16s_at (by omega)
  simp [Instr.index, asIntOf, run_underlying Try.underlying60, sizeOf, typeInfo, h1, h2, part, isAgg, run_underlying Try.underlying58, h3]
  omega

set_option maxHeartbeats 2000000 in
set_option maxRecDepth 4000 in
theorem appendHalf {B : Nat} {w : World} {v : Value} {n : Nat} {xs L : List Int} (hL : L.length = 32) (hr : ∀ i, i < 32 → 0 ≤ L.getD i 0 ∧ L.getD i 0 ≤ 65535) (ho : w.ownsRow B 2 1 v n (xs.map (Value.int .i64))) (hB : B ≤ w.heap.size) (hn : n ≤ 1000) :
    Calls Try.prog 29 #[v, .agg (u16s L).toArray] w fun e w' => ∃ v', e = .returned v' ∧ w'.ownsRow B 2 1 v' (n + 32) ((xs ++ L).map (Value.int .i64)) ∧ Below B w w' := by
  obtain ⟨ao, c, rfl⟩ := ownsRow_shape ho
  obtain ⟨i0, hi, hz0, hz1, hz2⟩ := info_parts Try.infoInt
  have HO := hide ho
  have HR := hide hr
  have HL := hide hL
  have HI := hide (fun (k : Nat) (w : World) (h : k < 32) => index_u16 (L := L) (k := k) w hL h)
  obtain ⟨C, hC⟩ : ∃ C, u16s L = C := ⟨_, rfl⟩
  rw [hC] at HI ⊢
  have hsz := hide (show (Try.prog.info? 60).map (·.size) = some C.length by rw [← hC, u16s_len, hL]; exact Try.sizeHHalf)
  clear ho hr hL hC
  have HO1 := hide (HO.out.alloc (.cells C.toArray 60))
  go_enter Try.func29, Try.ntmps29
  go_wp2_with (refine wpList_load_mid rfl 60 _ rfl w.heap.size 0 (by rfl) C _ (range_new w C 60) Try.underlying60 rfl hsz.out ?_)
  go_loopw [0, 8] (fun v i wr => ∃ (k : Nat) (ao : Option Addr) (c : Nat), k ≤ 32 ∧ i = .int .i64 k ∧ v = .slice ao (n + k) c ∧ Hid (wr.ownsRow B 2 1 (.slice ao (n + k) c) (n + k) ((xs ++ L.take k).map (Value.int .i64))) ∧ Hid (Below B w wr)) (fun _ i _ => 32 - (intOf i).toNat)
  case atStart => exact ⟨0, ao, c, by omega, rfl, rfl, by have := HO1.out; simpa [Hid] using this, (Below.refl B w).trans ((below_alloc _ _).mono hB)⟩
  case round =>
    obtain ⟨k, ao, c, hk, rfl, rfl, HO2, HB⟩ := hrel
    have hz := HB.out.size
    by_cases hlt : k < 32
    · have hidx := fun w => HI.out k w hlt
      have hrk := HR.out k hlt
      obtain ⟨x, hx⟩ : ∃ x, L.getD k 0 = x := ⟨_, rfl⟩
      have HX := hide hx
      rw [hx] at hidx hrk
      have wx : IntKind.i64.wrap x = x := by simp [IntKind.wrap, IntKind.bits, IntKind.signed]; omega
      clear hx
      go_wp2_with (at_builtin; refine wpList_append_lies _ rfl _ _ _ rfl B 2 i0 (.int .i64 0) 1 8 Try.underlying26 hi hz0 hz1 hz2 rfl (by omega) _ (n + k) _ (by rfl) (HO2.out.alloc _) ⟨wr.heap.size, 0, none⟩ 1 1 [.int .i64 x] (by rfl) (by rfl) (World.news_of_block (cs := #[.int .i64 x]) (t := 2) (fr := (0, 0)) (heap_alloc_new wr _)) (by simp [Value.oneCell']) (by omega) (by unfold maxLen; omega) (by omega) (by simp; omega) (wr.heap.size + 1) (by simp) ?_)
      intro g cap w3 hown hgrow hat hlt3
      have HO3 : Hid (w3.ownsRow B 2 1 (.slice (some ⟨g, 0, none⟩) (n + (k + 1)) cap) (n + (k + 1)) ((xs ++ L.take (k + 1)).map (Value.int .i64))) := by
        have hkl : k < L.length := by rw [HL.out]; exact hlt
        have e : L.take (k + 1) = L.take k ++ [x] := by rw [List.take_succ_eq_append_getElem hkl, ← HX.out]; simp [List.getD, hkl]
        have h := hown
        rw [Hid, e]
        simpa [List.map_append, List.map_take, Nat.add_assoc] using h
      have HG3 := hide ((HB.out.trans ((below_alloc wr (.cells #[.int .i64 x] 2)).mono (by omega))).grown hgrow (by simp; omega) (fun r hr => (HO2.out.lt r hr).1))
      clear hown hgrow hat hlt3
      go_wp2
      go_roundw
      case rel => exact ⟨k + 1, _, _, hlt, by go_num, rfl, HO3.out, HG3.out⟩
      case measure => simp [intOf]; omega
    · have hk2 : k = 32 := by omega
      subst hk2
      have HO3 : Hid (wr.ownsRow B 2 1 (.slice ao (n + 32) c) (n + 32) ((xs ++ L).map (Value.int .i64))) := by
        have := HO2.out
        rw [List.take_of_length_le (by rw [HL.out]; exact Nat.le_refl _)] at this
        exact this
      go_wp2
      go_ret
      exact ⟨_, rfl, HO3.out, HB.out⟩

theorem packH_range {s t : Int} {xs : List Int} (hf : headF s t xs = 0) : ∀ i, i < 32 → 0 ≤ (packH s t xs).getD i 0 ∧ (packH s t xs).getD i 0 ≤ 65535 := by
  obtain ⟨⟨hs1, hs2, ht1, ht2⟩, hxl, hxr⟩ := headF_zero hf
  have hall : ∀ x ∈ packH s t xs, 0 ≤ x ∧ x ≤ 65535 := by
    intro x hx
    simp only [packH, List.mem_append, List.mem_cons, List.mem_replicate, List.not_mem_nil, or_false] at hx
    rcases hx with ((rfl | rfl | rfl) | hx) | ⟨_, rfl⟩
    · omega
    · omega
    · omega
    · obtain ⟨j, hj, rfl⟩ := List.getElem_of_mem hx
      have := hxr j hj
      simp only [List.getD, List.getElem?_eq_getElem hj, Option.getD_some] at this
      omega
    · omega
  intro i hi
  have hl := packH_len (s := s) (t := t) (xs := xs) (by omega)
  refine hall _ ?_
  simp only [List.getD, List.getElem?_eq_getElem (show i < (packH s t xs).length by omega), Option.getD_some]
  exact List.getElem_mem _

set_option linter.unusedSimpArgs false in
set_option maxHeartbeats 2000000 in
set_option maxRecDepth 4000 in
theorem implPackHeader {S : Nat → Prop} {w : World} {y : Value} {xs : List Int} (s t : Int) (hy : RdI S w y xs) :
    Calls Try.prog 17 #[.agg #[.int .i64 s, .int .i64 t, y]] w (EndsI (headF s t xs) (if headF s t xs = 0 then packL s t xs else []) w) := by
  unfold EndsI
  have HY := hide hy
  obtain ⟨ay, cy, rfl⟩ := hy.shape
  clear hy
  obtain ⟨n, hn⟩ : ∃ n, xs.length = n := ⟨_, rfl⟩
  have HN := hide hn
  rw [hn] at HY ⊢
  clear hn
  obtain ⟨z, hz⟩ : ∃ z, headF s t xs = z := ⟨_, rfl⟩
  have HZ := hide hz
  have A0 := hide (below_on (below_alloc w (.cells #[.int .i64 s, .int .i64 t, .slice ay n cy] 49)) (below_alloc _ (.cells #[.int .i64 0, .slice none 0 0] 46)))
  by_cases h0 : z = 0
  · subst h0
    have hlen : n ≤ 24 := by have := (headF_zero hz).2.1; rw [HN.out] at this; exact this
    rw [if_pos hz, hz]
    have HAp := hide (fun (w : World) (v : Value) (n B : Nat) (ys : List Int) ho hB hn => appendHalf (B := B) (w := w) (v := v) (n := n) (xs := ys) (packH_len (by rw [HN.out]; omega)) (packH_range hz) ho hB hn)
    have hl32 : (u16s (packH s t xs)).length = 32 := by rw [u16s_len, packH_len (by rw [HN.out]; omega)]
    have hone := hide (all_oneCell_toArray (u16s_one (packH s t xs)))
    have HHo := hide (fun (w : World) (S : Nat → Prop) (hy : RdI S w (.slice ay n cy) xs) => halfOf s t hy hz)
    have HPl : Hid ((packH s t xs).length = 32) := packH_len (by rw [HN.out]; omega)
    obtain ⟨C, hC⟩ : ∃ C, u16s (packH s t xs) = C := ⟨_, rfl⟩
    rw [hC] at HAp hl32 hone HHo
    have hsz := hide (show (Try.prog.info? 60).map (·.size) = some C.toArray.size by rw [List.size_toArray, hl32]; exact Try.sizeHHalf)
    clear hz hC
    go_enter Try.func17, Try.ntmps17
    go_wp2_with fail
    refine (implHeaderFault s t (HY.out.later A0.out)).mono ?_
    rintro e w1 ⟨he, hb1⟩
    rw [HZ.out] at he
    subst he
    have c0 : w1.cell? ⟨w.heap.size, 0, none⟩ = some (.int .i64 s) := cell_later hb1 (by simp [go_sem])
    have c1 : w1.cell? ⟨w.heap.size, 1, none⟩ = some (.int .i64 t) := cell_later hb1 (by simp [go_sem])
    have c2 : w1.cell? ⟨w.heap.size, 2, none⟩ = some (.slice ay n cy) := cell_later hb1 (by simp [go_sem])
    have v0 : w1.cell? ⟨w.heap.size + 1, 0, none⟩ = some (.int .i64 0) := cell_later hb1 (by simp [go_sem])
    have v1 : w1.cell? ⟨w.heap.size + 1, 1, none⟩ = some (.slice none 0 0) := cell_later hb1 (by simp [go_sem])
    have vf : ∀ o, w1.frozen? ⟨w.heap.size + 1, o, none⟩ = false := fun o => ((bcell hb1).2 _ _ (by simp)).trans (by simp [go_sem])
    have B1 := hide (below_on A0.out hb1)
    have hz1 : w.heap.size + 2 ≤ w1.heap.size := by have := hb1.size; simpa using this
    clear hb1
    go_wp2_with fail
    refine (HHo.out w1 S (HY.out.later B1.out)).mono ?_
    rintro e w2 ⟨rfl, hb2⟩
    have hth : (w2.alloc (.cells (List.replicate 32 (Value.int .u16 0)).toArray 60)).there w2.heap.size 0 C.toArray.size := by
      rw [show C.toArray.size = 32 by simp [hl32]]
      exact there_new w2 (List.replicate 32 (Value.int .u16 0)) 60 32 rfl
    have HT := hide hth
    have hz2 : w.heap.size + 2 ≤ w2.heap.size := by have := hb2.size; omega
    have HW0 : Hid (Below w.heap.size w ((w2.alloc (.cells (List.replicate 32 (Value.int .u16 0)).toArray 60)).setCells w2.heap.size 0 C) ∧ ((w2.alloc (.cells (List.replicate 32 (Value.int .u16 0)).toArray 60)).setCells w2.heap.size 0 C).heap.size = w2.heap.size + 1 ∧
        ((w2.alloc (.cells (List.replicate 32 (Value.int .u16 0)).toArray 60)).setCells w2.heap.size 0 C).rangeAt w2.heap.size 0 C ∧
        ((w2.alloc (.cells (List.replicate 32 (Value.int .u16 0)).toArray 60)).setCells w2.heap.size 0 C).cell? ⟨w.heap.size + 1, 0, none⟩ = some (.int .i64 0) ∧
        ((w2.alloc (.cells (List.replicate 32 (Value.int .u16 0)).toArray 60)).setCells w2.heap.size 0 C).cell? ⟨w.heap.size + 1, 1, none⟩ = some (.slice none 0 0) ∧
        ∀ o, ((w2.alloc (.cells (List.replicate 32 (Value.int .u16 0)).toArray 60)).setCells w2.heap.size 0 C).frozen? ⟨w.heap.size + 1, o, none⟩ = false) := by
      have hb := below_on B1.out (below_on hb2 (below_alloc w2 (.cells (List.replicate 32 (Value.int .u16 0)).toArray 60)))
      have hb3 := below_on hb2 (below_alloc w2 (.cells (List.replicate 32 (Value.int .u16 0)).toArray 60))
      refine ⟨Below.setCells hb (by omega) _ _, by rw [setCells_size]; simp, World.rangeAt_setCells_same _ _ _ _ (by simpa using hth), ?_, ?_, fun o => ?_⟩
      · rw [World.cell?_setCells_out _ _ _ _ _ (fun hb _ => by simp at hb; omega)]; exact cell_later hb3 v0
      · rw [World.cell?_setCells_out _ _ _ _ _ (fun hb _ => by simp at hb; omega)]; exact cell_later hb3 v1
      · rw [World.frozen?_setCells]; exact ((bcell hb3).2 _ _ (by omega)).trans (vf o)
    clear hb2 hth v0 v1 vf c0 c1 c2
    go_upto_region 5 with (refine wpList_store_mid rfl 60 _ _ rfl w2.heap.size 0 C.toArray (by rfl) (by rfl) HT.out hsz.out hone.out ?_)
    refine forget (fun wx => Below w.heap.size w wx ∧ wx.heap.size = w2.heap.size + 1 ∧ wx.rangeAt w2.heap.size 0 C ∧ wx.cell? ⟨w.heap.size + 1, 0, none⟩ = some (.int .i64 0) ∧ wx.cell? ⟨w.heap.size + 1, 1, none⟩ = some (.slice none 0 0) ∧ ∀ o, wx.frozen? ⟨w.heap.size + 1, o, none⟩ = false) HW0.out ?_
    clear HW0 HT hone
    rintro W ⟨hbW, hWs, hrg, v0, v1, vf⟩
    have HBW := hide hbW
    clear hbW
    have hsz2 := hide (show (Try.prog.info? 60).map (·.size) = some C.length by rw [hl32]; exact Try.sizeHHalf)
    refine wp_region_held_drew (S := fun w' => w'.rangeAt w2.heap.size 0 C) (by kernel_rfl) (by simpa using hrg) (fun hHeld => ?_)
    refine wpAnyH_take (i := 0) (v := .agg C.toArray) rfl (by kernel_rfl) (by kernel_rfl) (by kernel_rfl) (fun _ _ _ h => h) (yieldsIf_load_mid (by rfl) 60 _ rfl w2.heap.size 0 (by rfl) C _ (fun _ h => h) Try.underlying60 rfl hsz2.out) hHeld ?_
    try simp only [Act.put, List.setIfInBounds_toArray, List.set_cons_zero, List.set_cons_succ]
    refine wpAnyH_take (i := 2) (v := .agg C.toArray) rfl (by kernel_rfl) (by kernel_rfl) (by kernel_rfl) (fun _ _ _ h => h) (yieldsIf_load_mid (by rfl) 60 _ rfl w2.heap.size 0 (by rfl) C _ (fun _ h => h) Try.underlying60 rfl hsz2.out) hHeld ?_
    try simp only [Act.put, List.setIfInBounds_toArray, List.set_cons_zero, List.set_cons_succ]
    refine wpAnyH_ready (rs := [1]) (by kernel_rfl) (by simp) (AllReadyH.cons rfl (fun K hK => ?_) AllReadyH.nil)
    go_simp
    go_at_call 29
    refine (HAp.out _ _ 0 W.heap.size [] (World.ownsRow_nil _ _ _ _) (by simp) (by omega)).mono ?_
    rintro e w3 ⟨z3, rfl, ho3, hb3⟩
    obtain ⟨ao3, c3, rfl⟩ := ownsRow_shape ho3
    have hz3 : W.heap.size ≤ w3.heap.size := by have := hb3.size; simpa using this
    have hr3 : w3.rangeAt w2.heap.size 0 C := fun j v hv => (hb3.cell (p := ⟨w2.heap.size, 0 + j, none⟩) (by simp; omega)).trans (by have := hrg j v hv; simpa using this)
    have u0 : w3.cell? ⟨w.heap.size + 1, 0, none⟩ = some (.int .i64 0) := (hb3.cell (p := ⟨w.heap.size + 1, 0, none⟩) (by simp; omega)).trans (by simpa using v0)
    have u1 : w3.cell? ⟨w.heap.size + 1, 1, none⟩ = some (.slice none 0 0) := (hb3.cell (p := ⟨w.heap.size + 1, 1, none⟩) (by simp; omega)).trans (by simpa using v1)
    have uf : ∀ o, w3.frozen? ⟨w.heap.size + 1, o, none⟩ = false := fun o => (hb3.frozen (p := ⟨w.heap.size + 1, o, none⟩) (by simp; omega)).trans (by have := vf o; simpa using this)
    have HB3 : Hid (Below W.heap.size W w3) := (below_drewN W 1).trans hb3
    have HO3 := hide ho3
    clear hb3 ho3 v0 v1 vf
    refine hK.out _ _ hr3 (fun hHeld3 => ?_)
    clear hK K
    try simp only [Act.put, List.setIfInBounds_toArray, List.set_cons_zero, List.set_cons_succ]
    refine wpAnyH_ready (rs := [3]) (by kernel_rfl) (by simp) (AllReadyH.cons rfl (fun K hK => ?_) AllReadyH.nil)
    go_simp
    go_at_call 29
    refine (HAp.out _ _ (0 + 32) W.heap.size _ HO3.out hz3 (by omega)).mono ?_
    rintro e w4 ⟨z4, rfl, ho4, hb4⟩
    obtain ⟨ao4, c4, rfl⟩ := ownsRow_shape ho4
    have hz4 : W.heap.size ≤ w4.heap.size := by have := hb4.size; omega
    have hr4 : w4.rangeAt w2.heap.size 0 C := fun j v hv => (hb4.cell (p := ⟨w2.heap.size, 0 + j, none⟩) (by simp; omega)).trans (hr3 j v hv)
    have t0 : w4.cell? ⟨w.heap.size + 1, 0, none⟩ = some (.int .i64 0) := (hb4.cell (p := ⟨w.heap.size + 1, 0, none⟩) (by simp; omega)).trans u0
    have t1 : w4.cell? ⟨w.heap.size + 1, 1, none⟩ = some (.slice none 0 0) := (hb4.cell (p := ⟨w.heap.size + 1, 1, none⟩) (by simp; omega)).trans u1
    have f0 : w4.frozen? ⟨w.heap.size + 1, 0, none⟩ = false := (hb4.frozen (p := ⟨w.heap.size + 1, 0, none⟩) (by simp; omega)).trans (uf 0)
    have f1 : w4.frozen? ⟨w.heap.size + 1, 1, none⟩ = false := (hb4.frozen (p := ⟨w.heap.size + 1, 1, none⟩) (by simp; omega)).trans (uf 1)
    have HB4 : Hid (Below w.heap.size w w4) := HBW.out.trans ((HB3.out.trans hb4).mono (by omega))
    have HO4 : Hid (OwI W.heap.size w4 (.slice ao4 (0 + 32 + 32) c4) (packL s t xs)) := ow_of_owns (n := 0 + 32 + 32) (by unfold packL; simp [HPl.out]) (by unfold packL; have := ho4; rw [List.nil_append] at this; exact this) (by unfold packL; simp [HPl.out])
    clear hb4 ho4 HO3 u0 u1 uf
    refine hK.out _ _ hr4 (fun hHeld4 => ?_)
    clear hK K
    try simp only [Act.put, List.setIfInBounds_toArray, List.set_cons_zero, List.set_cons_succ]
    refine wpAnyH_take (i := 4) (v := ?v4) rfl (by kernel_rfl) (by kernel_rfl) (by kernel_rfl) (fun _ _ _ h => h) (Or.inl ⟨by rfl, ?h4⟩) hHeld4 ?r4
    case h4 => intro w9 hSw; (try dsimp only at hSw); first | (go_simp; done) | (go_simp; with_reducible rfl)
    try simp only [Act.put, List.setIfInBounds_toArray, List.set_cons_zero, List.set_cons_succ]
    refine wpAnyH_ready (rs := [5]) (by kernel_rfl) (by simp) (AllReadyH.cons rfl (fun K hK => ?_) AllReadyH.nil)
    go_simp
    refine hK.out _ _ (fun j v hv => ?_) (fun _ => ?_)
    · rw [World.cell?_setCell_other _ _ _ _ (by intro e; injection e with e1 _; omega), World.cell?_setCell_other _ _ _ _ (by intro e; injection e with e1 _; omega)]
      exact hr4 j v hv
    clear hK K
    try simp only [Act.put, List.setIfInBounds_toArray, List.set_cons_zero, List.set_cons_succ]
    refine wpAnyH_done (by kernel_rfl) ?_ _
    go_wp2
    have hfin := ret_ints (x := .int .i64 0) HB4.out (r := w.heap.size + 1) (by omega) HO4.out (by omega)
    exact bodyPost_ret (v := .agg #[.int .i64 0, .slice ao4 (0 + 32 + 32) c4]) (by simp [results, Try.results17, go_sem, t0, t1]) rfl ⟨_, rfl, hfin.1, hfin.2⟩
  · rw [if_neg (by rw [hz]; exact h0), hz]
    clear hz
    go_enter Try.func17, Try.ntmps17
    go_wp2_with fail
    refine (implHeaderFault s t (HY.out.later A0.out)).mono ?_
    rintro e w1 ⟨he, hb1⟩
    rw [HZ.out] at he
    subst he
    have v0 : w1.cell? ⟨w.heap.size + 1, 0, none⟩ = some (.int .i64 0) := cell_later hb1 (by simp [go_sem])
    have v1 : w1.cell? ⟨w.heap.size + 1, 1, none⟩ = some (.slice none 0 0) := cell_later hb1 (by simp [go_sem])
    have f0 : w1.frozen? ⟨w.heap.size + 1, 0, none⟩ = false := ((bcell hb1).2 _ _ (by simp)).trans (by simp [go_sem])
    have f1 : w1.frozen? ⟨w.heap.size + 1, 1, none⟩ = false := ((bcell hb1).2 _ _ (by simp)).trans (by simp [go_sem])
    have HB := hide (below_on A0.out hb1)
    clear hb1
    go_wp2
    refine bodyPost_ret (v := .agg #[.int .i64 z, .slice none 0 0]) (by simp [results, Try.results17, go_sem, v0, v1]) rfl ⟨_, rfl, ?_, OwI_nil _ _⟩
    repeat (first | refine Below.setCell ?_ (by first | (simp; done) | (simp; omega) | omega) _ | exact HB.out)
end Go.Proofs.Ytkdbkkhmaiomkaa
