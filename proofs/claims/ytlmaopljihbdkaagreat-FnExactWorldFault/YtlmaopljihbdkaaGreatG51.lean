/- Ld3 Ld4 in one text: what each says stands at its head below. -/
import Derived.Test.YtlmaopljihbdkaaGreatG46
import Derived.Test.YtlmaopljihbdkaaGreatG35
import Derived.Test.YtlmaopljihbdkaaGreatG37
import Derived.Test.YtlmaopljihbdkaaGreatG50
import Derived.Shelf.SlMaps.Clone
import Derived.Sort.MapsRangeIn
import Derived.Maps.RangeWalk
import Derived.TacticsInMore
import Derived.LoopIn
import Derived.LoopNIn
import Derived.Test.YtlmaopljihbdkaaGreatG47
import Derived.Maps.OwnIn
namespace Go.Proofs.YtlmaopljihbdkaaGreat
open Go.RowKit Go.Maps Go.Shelf
def delM (M : Int → List Int) (L : List (Int × List Int)) : Int → List Int := L.foldl (fun N p => putM N (p.1, [])) M
theorem delM_snoc (M : Int → List Int) (L : List (Int × List Int)) (p : Int × List Int) : delM M (L ++ [p]) = putM (delM M L) (p.1, []) := by unfold delM; rw [List.foldl_append]; rfl
theorem delM_take {M : Int → List Int} {L : List (Int × List Int)} {k : Nat} (h : k < L.length) : delM M (L.take (k + 1)) = putM (delM M (L.take k)) ((L.getD k (0, [])).1, []) := by
  rw [List.take_succ_eq_append_getElem h, delM_snoc]
  simp [List.getD, h]
theorem delM_off {a : Int} : ∀ (L : List (Int × List Int)) (M : Int → List Int), (∀ p, p ∈ L → p.1 ≠ a) → delM M L a = M a := by
  intro L
  induction L with
  | nil => intro M _; rfl
  | cons p L ih =>
    intro M h
    have h1 := h p (by simp)
    have h2 := ih (putM M (p.1, [])) fun q hq => h q (by simp [hq])
    show delM (putM M (p.1, [])) L a = M a
    rw [h2]
    unfold putM
    rw [if_neg (fun e => h1 e.symm)]
theorem delM_none {a : Int} : ∀ (L : List (Int × List Int)) (M : Int → List Int), M a = [] → delM M L a = [] := by
  intro L
  induction L with
  | nil => intro M h; exact h
  | cons p L ih =>
    intro M h
    refine ih (putM M (p.1, [])) ?_
    unfold putM
    split
    · rfl
    · exact h
theorem delM_on {a : Int} : ∀ (L : List (Int × List Int)) (M : Int → List Int), (∃ p, p ∈ L ∧ p.1 = a) → delM M L a = [] := by
  intro L
  induction L with
  | nil => rintro M ⟨p, hp, _⟩; simp at hp
  | cons p L ih =>
    rintro M ⟨q, hq, e⟩
    show delM (putM M (p.1, [])) L a = []
    rcases List.mem_cons.1 hq with rfl | hq
    · refine delM_none L _ ?_
      unfold putM
      rw [if_pos e.symm]
    · exact ih _ ⟨q, hq, e⟩
theorem delM_next {M : Int → List Int} {L : List (Int × List Int)} {k : Nat} (hL : Laid L) (h : k < L.length) : delM M (L.take k) (L.getD k (0, [])).1 = M (L.getD k (0, [])).1 := by
  refine delM_off _ _ fun p hp => ?_
  obtain ⟨i, hi, rfl⟩ := List.getElem_of_mem hp
  have hik : i < k := by simp at hi; omega
  have := List.pairwise_iff_getElem.1 hL.other i k (by omega) h hik
  rw [List.getElem_take]
  simpa [List.getD, h] using this
theorem hlAll_iff {M : Int → List Int} {L : List (Int × List Int)} : hlAll M L ↔ ∀ i, i < L.length → M (L.getD i (0, [])).1 = (L.getD i (0, [])).2 := by
  constructor
  · intro h i hi
    exact h _ (by rw [show L.getD i (0, []) = L[i] by simp [List.getD, hi]]; exact List.getElem_mem hi)
  · intro h p hp
    obtain ⟨i, hi, rfl⟩ := List.getElem_of_mem hp
    have := h i hi
    simpa [List.getD, hi] using this
theorem hlRest_of {M : Int → List Int} {L : List (Int × List Int)} (h : ∀ a : Int, 0 ≤ a → a < 40 → delM M L a ≠ [] → psB a) : hlRest M L := by
  intro a ha hne hp
  refine h a (by omega) (by omega) ?_
  rw [delM_off L M hp]
  exact hne
theorem hlRest_no {M : Int → List Int} {L : List (Int × List Int)} {a : Int} (h0 : 0 ≤ a) (h1 : a < 40) (h2 : delM M L a ≠ []) (h3 : ¬ psB a) : ¬ hlRest M L := by
  intro h
  have hoff : ∀ p, p ∈ L → p.1 ≠ a := fun p hp e => h2 (delM_on L M ⟨p, hp, e⟩)
  have hne : M a ≠ [] := by rw [← delM_off L M hoff]; exact h2
  have e : ((a.toNat : Nat) : Int) = a := by omega
  refine h3 ?_
  have := h a.toNat (by omega) (by rw [e]; exact hne) (by rw [e]; exact hoff)
  rwa [e] at this
set_option maxHeartbeats 1000000 in
theorem isPassedOverI (a : Int) (w : World) : Calls Tryz.prog 103 #[.int .i64 a] w fun e w' => e = .returned (.bool (decide (psB a))) ∧ w' = w := by
  by_cases hp : psB a
  · rw [decide_eq_true hp]
    unfold psB at hp
    by_cases h1 : 24 ≤ a <;> by_cases h2 : a < 38 <;> by_cases h3 : 3 ≤ a <;> by_cases h4 : a ≤ 22
    all_goals
      first
      | (exfalso; omega)
      | (clear hp
         go_enter Tryz.func103, Tryz.ntmps103
         go_wp2
         go_ret
         exact ⟨by first | rfl | simp, rfl⟩)
  · rw [decide_eq_false hp]
    unfold psB at hp
    by_cases h1 : 24 ≤ a <;> by_cases h2 : a < 38 <;> by_cases h3 : 3 ≤ a <;> by_cases h4 : a ≤ 22
    all_goals
      first
      | (exfalso; omega)
      | (clear hp
         go_enter Tryz.func103, Tryz.ntmps103
         go_wp2
         go_ret
         exact ⟨by first | rfl | simp, rfl⟩)
theorem cloneS {S : Nat → Prop} {w : World} {B n : Nat} {M : Int → List Int} (hs : SeenS S w B n M) :
    Calls Tryz.prog 101 #[.map (some B)] w fun e w' => e = .returned (.map (some w.heap.size)) ∧ SeenS S w' w.heap.size n M ∧ Below w.heap.size w w' := by
  obtain ⟨D, h1, h2, h3⟩ := hs
  refine (Go.Proofs.AnyW.maps_Clone_owns Tryz.cloneM 2 asIs B n D w h1).mono ?_
  rintro e w' ⟨rfl, k1, _, k3⟩
  refine ⟨rfl, ⟨D, k1, fun a h4 h5 => ?_, h3⟩, k3⟩
  obtain ⟨v, e, r⟩ := h2 a h4 h5
  exact ⟨v, e, r.later k3⟩
end Go.Proofs.YtlmaopljihbdkaaGreat
namespace Go.Proofs.YtlmaopljihbdkaaGreat
open Go.RowKit Go.Maps Go.Shelf
attribute [local go_sem] Oper.semAt_some
def HlI (M : Int → List Int) (L : List (Int × List Int)) (U : Nat → Prop) (w : World) (Br Bb X n : Nat) (D : Nat → Prop) (k : Nat) (W : World) : Prop :=
  (∀ b, D b ↔ b = X ∨ b = Br) ∧ (∀ i, i < k → M (L.getD i (0, [])).1 = (L.getD i (0, [])).2) ∧ SeenS U W X n (delM M (L.take k)) ∧ W.cell? ⟨Bb, 0, none⟩ = some (.map (some X)) ∧ W.cell? ⟨Br, 0, none⟩ = some (.bool false) ∧ (∀ o, W.frozen? ⟨Br, o, none⟩ = false) ∧ Below w.heap.size w W
theorem HlI.later {M : Int → List Int} {L : List (Int × List Int)} {U : Nat → Prop} {w A B : World} {Br Bb X n k : Nat} {D : Nat → Prop} (h : HlI M L U w Br Bb X n D k A) (hb : Below A.heap.size A B) : HlI M L U w Br Bb X n D k B := by
  obtain ⟨h0, h1, h2, h3, h4, h5, h6⟩ := h
  exact ⟨h0, h1, h2.later hb, cell_later hb h3, cell_later hb h4, fun o => ((bcell hb).2 _ _ (World.block_lt_of_cell? _ _ h4)).trans (h5 o), below_on h6 hb⟩
theorem SeenS.noloop {U : Nat → Prop} {A : World} {X n l : Nat} {M : Int → List Int} {q q' : Obj} (h : SeenS U A X n M) (hU : ∀ b, U b → b ≠ l) (hl : A.heap[l]? = some q) (hq : isMark q = true) (hq' : isMark q' = true) : SeenS U (A.putObj l q') X n M := by
  refine h.ku (Ku.of_wr (wr_mark hl hq hq')) (fun e => ?_) hU
  obtain ⟨D, ⟨es, clock, hb, _⟩, _⟩ := h
  have e' : X = l := e
  subst e'
  rw [hl] at hb
  injection hb with hb
  subst hb
  simp [isMark] at hq
theorem HlI.noloop {M : Int → List Int} {L : List (Int × List Int)} {U : Nat → Prop} {w A : World} {Br Bb X n k l : Nat} {D : Nat → Prop} {q q' : Obj} (h : HlI M L U w Br Bb X n D k A) (hU : ∀ b, U b → b < w.heap.size) (hl : A.heap[l]? = some q) (hq : isMark q = true) (hq' : isMark q' = true) (h9 : w.heap.size ≤ l) : HlI M L U w Br Bb X n D k (A.putObj l q') := by
  obtain ⟨h0, h1, h2, h3, h4, h5, h6⟩ := h
  have hn : ¬ Br = l := fun e => by subst e; exact cell_no_loop h4 hl hq
  have hn2 : ¬ Bb = l := fun e => by subst e; exact cell_no_loop h3 hl hq
  exact ⟨h0, h1, h2.noloop (fun b hb => by have := hU b hb; omega) hl hq hq', cell_wr (wr_mark hl hq hq') h3 hn2, cell_wr (wr_mark hl hq hq') h4 hn, fun o => ((wr_mark hl hq hq').frz _ _ (World.block_lt_of_cell? _ _ h4)).trans (h5 o), h6.trans ((wr_mark hl hq hq').below h6.size (fun b e => by omega))⟩
set_option maxRecDepth 100000 in
set_option maxHeartbeats 8000000 in
theorem holdsI {S T U : Nat → Prop} {w : World} {B n : Nat} {M : Int → List Int} {y z : Value} (r : Rf) (hs : SeenS U w B n M) (hU : ∀ b, U b → b < w.heap.size) (hy : RdI S w y r.sn) (hz : RdJ T w z r.lg) (h : rfF r = 0) :
    Calls Tryz.prog 53 #[.map (some B), .agg #[.int .i64 r.tm, .int .i64 r.vt, .int .i64 r.si, .int .i64 r.st, y, z]] w fun e w' => e = .returned (.bool (decide (hlP M r))) ∧ Below w.heap.size w w' := by
  obtain ⟨ay, cy, rfl⟩ := hy.shape
  obtain ⟨az, cz, rfl, _⟩ := hz.shape
  have hl := rf_words h
  have hlg := (logF_iff.1 (rfF_iff.1 h).lo).1
  obtain ⟨h40, _⟩ := st_len h
  have HLd := hide (st_laid h)
  have HSq := hide (fun (w1 : World) (hb : Below w.heap.size w w1) (k : Nat) => storeSeq (w := w1.alloc (.cells #[.int .i64 r.tm, .int .i64 r.vt, .int .i64 r.si, .int .i64 r.st, .slice ay r.sn.length cy, .slice az r.lg.length cz] 33)) (Bp := w1.heap.size) r (by simp [go_sem]) (by simp [go_sem]) (by simp [go_sem]) (by simp [go_sem]) (by simp [go_sem]) (by simp [go_sem]) ((hy.inw.later hb).later (below_alloc _ _)) ((hz.inw.later hb).later (below_alloc _ _)) hl (by omega) (fun b hb' => by have := hb.size; simp; omega) (fun b hb' => by have := hb.size; simp; omega) k)
  obtain ⟨P, hP⟩ : ∃ P, decide (hlP M r) = P := ⟨_, rfl⟩
  have hPd : P = true ↔ hlAll M (stP r) ∧ hlRest M (stP r) := by rw [← hP, decide_eq_true_iff]; rfl
  have eL : flP r ++ meP r ++ snP r ++ enP r = stP r := rfl
  simp only [eL] at HSq
  obtain ⟨L, hL⟩ : ∃ L, stP r = L := ⟨_, rfl⟩
  rw [hL] at hPd h40 HLd
  simp only [hL] at HSq
  rw [hP]
  have HPd := hide hPd
  have HU := hide hU
  have HCl := hide (fun (w' : World) (hb : Below w.heap.size w w') => cloneS (hs.later hb))
  have hBl := hs.lt
  clear hP hPd eL hL hy hz hs hU h hl hlg
  generalize r.sn.length = l1 at *
  generalize r.lg.length = m1 at *
  generalize r.tm = a at *
  generalize r.vt = b at *
  generalize r.si = c at *
  generalize r.st = d at *
  have A0 := hide (below_on (below_alloc w (.cells #[.int .i64 a, .int .i64 b, .int .i64 c, .int .i64 d, .slice ay l1 cy, .slice az m1 cz] 33)) (below_alloc _ (.cells #[.bool false] 4)))
  have V0 := (Var6_new w (.int .i64 a) (.int .i64 b) (.int .i64 c) (.int .i64 d) (.slice ay l1 cy) (.slice az m1 cz) 33).later (below_alloc _ (.cells #[.bool false] 4))
  refine (callsIn_wide (n := 3)).1 ?_
  refine callsIn_of_wp_marks Tryz.func53 rfl trivial ?_ rfl
  simp only [Tryz.ntmps53, List.size_toArray, List.length_cons, List.length_nil, Nat.reduceAdd, Nat.reduceSub, Array.replicate_succ, Array.replicate_zero, List.push_toArray, List.append_toArray, List.nil_append, List.cons_append]
  gi_wp2
  refine ⟨trivial, (callsIn_wide.2 (HCl.out _ A0.out)).mono ?_⟩
  rintro e w2 ⟨rfl, hse, hb2⟩
  have r0 : w2.cell? ⟨w.heap.size + 1, 0, none⟩ = some (.bool false) := cell_later hb2 (by simp [go_sem])
  have rf : ∀ o, w2.frozen? ⟨w.heap.size + 1, o, none⟩ = false := fun o => ((bcell hb2).2 _ _ (by simp)).trans (by simp [go_sem])
  have V2 := V0.later hb2
  have B2 := hide (below_on A0.out hb2)
  have hs2 : w.heap.size + 3 ≤ w2.heap.size := by have := hse.lt; simp at this; omega
  have hX : ((w.alloc (.cells #[.int .i64 a, .int .i64 b, .int .i64 c, .int .i64 d, .slice ay l1 cy, .slice az m1 cz] 33)).alloc (.cells #[.bool false] 4)).heap.size = w.heap.size + 2 := by simp
  rw [hX] at hse ⊢
  have HSe := hide hse
  have HRf := hide rf
  obtain ⟨W3, hW3⟩ : ∃ W3, w2.alloc (.cells #[.map (some (w.heap.size + 2))] 93) = W3 := ⟨_, rfl⟩
  have hb3 : Below w2.heap.size w2 W3 := by rw [← hW3]; exact below_alloc _ _
  have hs3 : W3.heap.size = w2.heap.size + 1 := by rw [← hW3]; simp
  obtain ⟨v0, v1, v2, v3, v4, v5⟩ := V2.later hb3
  have m3 : W3.cell? ⟨w2.heap.size, 0, none⟩ = some (.map (some (w.heap.size + 2))) := by rw [← hW3]; simp [go_sem]
  have r3 := cell_later hb3 r0
  have rf3 : ∀ o, W3.frozen? ⟨w.heap.size + 1, o, none⟩ = false := fun o => ((bcell hb3).2 _ _ (by omega)).trans (HRf.out o)
  have HSe3 := hide (HSe.out.later hb3)
  have B3 := hide (below_on B2.out hb3)
  have HRf3 := hide rf3
  clear hb2 hse rf V0 hX V2 hb3 rf3 HRf HSe B2 r0
  gi_wp2
  refine ⟨trivial, (callsIn_wide.2 (storeBlocksM a b c d ay l1 cy az m1 cz W3)).mono ?_⟩
  rintro e w4 ⟨rfl, hw4⟩
  have hb4 : Below W3.heap.size W3 w4 := by rw [hw4]; exact below_alloc _ _
  have hs4 : w4.heap.size = W3.heap.size + 1 := by rw [hw4]; simp
  have HSq4 := hide (HSq.out W3 B3.out)
  rw [← hw4] at HSq4
  have m4 := cell_later hb4 m3
  have r4 := cell_later hb4 r3
  have HRf4 : Hid (∀ o, w4.frozen? ⟨w.heap.size + 1, o, none⟩ = false) := fun o => ((bcell hb4).2 _ _ (by omega)).trans (HRf3.out o)
  have HSe4 := hide (HSe3.out.later hb4)
  have B4 := hide (below_on B3.out hb4)
  clear v0 v1 v2 v3 v4 v5 hb4 hw4 m3 r3 HRf3 HSe3 B3 HSq
  gi_wp2
  simp only [hs3] at HSq4
  have hlt4 : w.heap.size + 2 < w4.heap.size := HSe4.out.lt
  refine wpIn_rangeFunc_G (n := 3) 74 (gf := 83) rfl (enters_of Tryz.func83 (by kernel_rfl) rfl) (HSq4.out 2) (Below.refl _ _) rfl (HlI M L U w (w.heap.size + 1) w2.heap.size (w.heap.size + 2) n)
    (fun c W => c = .ret ∧ P = false ∧ W.cell? ⟨w.heap.size + 1, 0, none⟩ = some (.bool false) ∧ Below w.heap.size w W) (fun b => b = w.heap.size + 2 ∨ b = w.heap.size + 1)
    (fun D k A B h hb => h.later hb) (fun D k A l' o o' hl' h hr ho ho' => h.noloop HU.out hr ho ho' (by omega)) (fun c A B h hb => ⟨h.1, h.2.1, cell_later hb h.2.2.1, below_on h.2.2.2 hb⟩) (fun c A l' o o' hl' h hr ho ho' => ⟨h.1, h.2.1, cell_wr (wr_mark hr ho ho') h.2.2.1 (fun e => by subst e; exact cell_no_loop h.2.2.1 hr ho), h.2.2.2.trans ((wr_mark hr ho ho').below h.2.2.2.size (fun b e => by omega))⟩)
    (fun D k A h b hb => by
      obtain ⟨h0, _, h2, _, h4, _⟩ := h
      have k1 := h2.lt
      have k2 := World.block_lt_of_cell? _ _ h4
      rcases (h0 b).1 hb with e | e
      · omega
      · dsimp only at k2; omega) (fun b e hr => by omega) (fun b hr => by omega)
    ⟨fun b => Iff.rfl, fun i hi => absurd hi (Nat.not_lt_zero _), HSe4.out, m4, r4, HRf4.out, B4.out⟩
    (fun x v Bx => { tmps := #[.map (some B), .agg #[.int .i64 a, .int .i64 b, .int .i64 c, .int .i64 d, .slice ay l1 cy, .slice az m1 cz], undef, .pointer (some ⟨w.heap.size, 0, none⟩), .pointer (some ⟨w.heap.size + 1, 0, none⟩), .pointer (some ⟨w2.heap.size, 0, none⟩), .pointer (some ⟨Bx, 0, none⟩), undef, .map (some B), .map (some (w.heap.size + 2)), .agg #[.int .i64 a, .int .i64 b, .int .i64 c, .int .i64 d, .slice ay l1 cy, .slice az m1 cz], .func (.func 83) #[] #[.pointer (some ⟨w2.heap.size + 1, 0, none⟩)], .agg #[.int .i64 x, v], undef, undef, undef, undef, undef, undef, undef, undef, undef, undef, undef, undef, undef, undef, undef, undef, undef, undef, undef, undef], defers := [] }) ?assign ?body ?done ?stop
  case assign =>
    rintro x v B K ⟨ao, n, c, rfl⟩ hK
    simp only [encP]
    gi_wp2
    exact hK
  case body =>
    rintro D k x v A B' W hI hAB hk hx hv hwr hsW hAs hIW hrec
    obtain ⟨h0, h1, h2, h3, h4, h5, h6⟩ := hIW
    obtain ⟨bz, hv1, hv2⟩ := hv
    obtain ⟨zv, cv', rfl⟩ := hv1.shape
    have hsB := hAB.size
    have hBW : Ku (fun b => b = w4.heap.size + 1) B' W := (Ku.of_below (below_alloc _ _)).trans (Ku.of_wr hwr)
    have hvW : RdI (· = bz) W (.slice zv (L.getD k (0, [])).2.length cv') (L.getD k (0, [])).2 := hv1.ku hBW (fun hn b hb => by have := (hv2 hn).1; omega)
    have hp0 : W.cell? ⟨B'.heap.size, 0, none⟩ = some (.int .i64 x) := cell_wr hwr (by simp [go_sem]) (by omega)
    have hp1 : W.cell? ⟨B'.heap.size, 1, none⟩ = some (.slice zv (L.getD k (0, [])).2.length cv') := cell_wr hwr (by simp [go_sem]) (by omega)
    have hm : L.getD k (0, []) ∈ L := by rw [show L.getD k (0, []) = L[k] by simp [List.getD, hk]]; exact List.getElem_mem hk
    have hroom := HLd.out.room _ hm
    have hnx := delM_next (M := M) HLd.out hk
    have htk := delM_take (M := M) hk
    have hal := fun (e : M (L.getD k (0, [])).1 ≠ (L.getD k (0, [])).2) (hp : P = true) => e (hlAll_iff.1 (HPd.out.1 hp).1 k hk)
    rw [← hx] at hroom hnx htk hal
    have h1k : M x = (L.getD k (0, [])).2 → ∀ i, i < k + 1 → M (L.getD i (0, [])).1 = (L.getD i (0, [])).2 := fun e i hi => by
      rcases Nat.lt_or_ge i k with h | h
      · exact h1 i h
      · obtain rfl : i = k := by omega
        rw [← hx]; exact e
    obtain ⟨ws, hws⟩ : ∃ ws, (L.getD k (0, [])).2 = ws := ⟨_, rfl⟩
    rw [hws] at hvW hp1 hal h1k ⊢
    obtain ⟨vl, hlook, hrl⟩ := h2.look hroom.1 hroom.2
    rw [hnx] at hrl
    obtain ⟨al, cl, rfl⟩ := hrl.shape
    have hlk := hlook W rfl
    have HEq := hide (slicesEqualR hrl hvW)
    obtain ⟨ll, hll⟩ : ∃ l, (M x).length = l := ⟨_, rfl⟩
    obtain ⟨lv, hlv⟩ : ∃ l, ws.length = l := ⟨_, rfl⟩
    rw [hll, hlv] at HEq
    rw [hll] at hlk
    rw [hlv] at hp1 ⊢
    have H2 := hide h2
    have H5 := hide h5
    have H6 := hide h6
    have H0 := hide h0
    have HTk := hide htk
    have HAl := hide hal
    have H1k := hide h1k
    clear hv1 hv2 hvW hI hAB hx hwr hsW hAs hrec h1 h2 h5 h6 h0 hlook hrl hBW hm hnx htk hal h1k hws hll hlv
    gi_wp2
    refine ⟨trivial, ((callsIn_wide.2 HEq.out).inRound _).mono ?_⟩
    rintro e W5 ⟨rfl, q5, hw5⟩
    have hb5 : Below W.heap.size W W5 := by rw [hw5]; exact below_drewN _ _
    have h35 := cell_later hb5 h3
    have h45 := cell_later hb5 h4
    have h55 : ∀ o, W5.frozen? ⟨w.heap.size + 1, o, none⟩ = false := fun o => ((bcell hb5).2 _ _ (World.block_lt_of_cell? _ _ h4)).trans (H5.out o)
    have hpp := cell_later hb5 hp0
    have H25 := hide (H2.out.later hb5)
    have H65 := hide (below_on H6.out hb5)
    have HB5 := hide hb5
    have hf5 := h55 0
    have HF5 := hide h55
    clear hb5 hw5 h55 H2 H6 H5 hlk h3 h4 hp0 hp1
    by_cases he : M x = ws
    · rw [decide_eq_true he]
      have hkey : Hid (keyOf Tryz.prog 2 (.int .i64 x) = some (.int .i64 x)) := keyOf_int_mk Tryz.underlying2 (WalkArith.wf_i64 (by omega))
      obtain ⟨DD, hown, hD2, hK2⟩ := H25.out
      have HO := hide hown
      have HD2 := hide hD2
      have HK2 := hide hK2
      clear hown hD2 hK2
      gi_wp2_with (first
        | (gi_at_delete; refine wpListIn_delete_own _ rfl _ _ 93 2 rfl 22 lawI64 Tryz.underlying93 _ (w.heap.size + 2) n DD rfl HO.out _ _ rfl hkey.out ?_; intro w6 hown1 hturn1)
        | gi_in)
      have hg1 := hturn1.grown
      have hk6 := Ku.of_grown hg1
      have hse6 := SeenS.del HD2.out HK2.out (fun b hb => by have := HU.out b hb; omega) hown1 hg1
      rw [← HTk.out] at hse6
      have hk56 : Ku (fun b => b = w.heap.size + 2) W w6 := (Ku.of_below HB5.out).trans (hk6.mono (fun b e => by injection e with e; exact e.symm))
      have hsz2 : w.heap.size + 1 < W5.heap.size := World.block_lt_of_cell? _ _ h45
      refine ⟨D, ⟨H0.out, H1k.out he, hse6, hk6.cell h35 (fun e => by have := Option.some.inj e; omega), hk6.cell h45 (fun e => by have := Option.some.inj e; omega), fun o => (hk6.frozen hsz2 (fun e => by have := Option.some.inj e; omega)).trans (HF5.out o), H65.out.trans (hk6.below H65.out.size (fun b e => by have := Option.some.inj e; omega))⟩, hk56.mono (fun b e => (H0.out b).2 (.inl e)), fun b hb => .inl hb⟩
    · rw [decide_eq_false he]
      gi_wp2
      have hst : Ku (fun b => b = w.heap.size + 1) W5 (W5.setCell ⟨w.heap.size + 1, 0, none⟩ (.bool false)) := Ku.of_wr ((Wr.refl (fun b => b = w.heap.size + 1) _).setCell (p := ⟨w.heap.size + 1, 0, none⟩) rfl _)
      refine ⟨((Ku.of_below HB5.out).trans hst).mono (fun b e => (H0.out b).2 (.inr e)), rfl, ?_, World.cell?_setCell_same _ _ _ h45, H65.out.trans (hst.below H65.out.size (fun b e => by omega))⟩
      cases hPb : P with
      | false => rfl
      | true => exact absurd hPb (HAl.out he)
  case stop =>
    rintro c W ⟨rfl, hPf, a0, hbl⟩ hK
    subst hPf
    gi_wp2
    have hwn := wr_none (d' := none) hK
    have y0 := cell_wr hwn a0 (by omega)
    have hB5 := hbl.trans (hwn.below hbl.size (fun b e => by omega))
    refine ⟨by simp, .inl ⟨_, _, rfl, run_takeDeferred hK, ?_⟩⟩
    exact ⟨.bool false, by simp [results, Tryz.results53, go_sem, y0], rfl, hB5⟩
  case done =>
    rintro D W ⟨h0, h1, h2, h3, h4, h5, h6⟩ hK
    rw [List.take_length] at h2
    obtain ⟨DD, hown, hD2, hK2⟩ := h2
    have HO := hide hown
    have HK2 := hide hK2
    have HAll := hide (hlAll_iff.2 h1)
    have H5 := hide h5
    have H6 := hide h6
    have hf5 := h5 0
    clear hown hD2 hK2 h1 h5 h6 h0
    gi_wp2_with (first
      | (gi_at_range; refine wpListIn_range_own _ rfl _ 93 rfl 2 22 lawI64 Tryz.underlying93 _ (w.heap.size + 2) n _ rfl HO.out ?_; intro w0 hrg0 hg0 hs0)
      | gi_in)
    go_frame
    have hWl : w4.heap.size < W.heap.size := (Array.getElem?_eq_some_iff.1 hK).1
    have k0 := Ku.of_grown hg0
    have hb0 : Below W.heap.size W w0 := k0.below (Nat.le_refl _) (fun b e => by cases e)
    have H50 : Hid (∀ o, w0.frozen? ⟨w.heap.size + 1, o, none⟩ = false) := fun o => ((bcell hb0).2 _ _ (by omega)).trans (H5.out o)
    have H40 := hide (cell_later hb0 h4)
    have H60 := hide (below_on H6.out hb0)
    have HK0 := hide ((hb0.block _ hWl).trans hK)
    have HR0 := hide hrg0
    have HWl := hide (Nat.le_refl W.heap.size)
    obtain ⟨rr, hrr⟩ : ∃ rr, W.heap.size = rr := ⟨_, rfl⟩
    rw [hrr] at HR0 hWl ⊢
    clear hg0 k0 hb0 hrg0 hK h3 h4 hf5 H5 H6 HO hs0
    rw [hs4, hs3]
    gi_loopw [7] (fun _ wr => ∃ (left : Lit → Bool) (cnt : Nat), Hid (wr.ranges Tryz.prog 2 asIs (w.heap.size + 2) rr n DD left cnt) ∧ Hid (∀ x : Int, has DD (.int .i64 x) = true → left (.int .i64 x) = false → psB x) ∧ Hid (wr.cell? ⟨w.heap.size + 1, 0, none⟩ = some (.bool false)) ∧ Hid (∀ o, wr.frozen? ⟨w.heap.size + 1, o, none⟩ = false) ∧ Hid (Below w.heap.size w wr) ∧ Hid (wr.heap[w4.heap.size]? = some (.deferred (some [])))) (fun _ wr => wr.rangeLeft (w.heap.size + 2) rr)
    case atStart => exact ⟨_, _, HR0.out, fun x h1 h2 => (by have h3 : has DD (.int .i64 x) = false := h2; rw [h1] at h3; cases h3), H40.out, H50.out, H60.out, HK0.out⟩
    case round =>
      clear HR0 H40 H50 H60 HK0
      obtain ⟨left, cnt, HR, HPs, H4, H5, H6, HK⟩ := hrel
      have h4 := H4.out
      have f4 := H5.out 0
      gi_wp2_with (first
        | (gi_at_next; refine wpListIn_next_ranges _ rfl _ rfl 2 lawI64 asIs (fun x : Int => .int .i64 x) (fun v : Value => v) (fun key kl hk => by obtain ⟨x, e, _⟩ := Maps.keyOf_int_inv Tryz.underlying2 hk; exact ⟨x, e⟩) (fun v _ _ => ⟨v, rfl⟩) (w.heap.size + 2) rr n DD left cnt rfl HR.out ?_ ?_)
        | gi_in)
      · intro hc0 hl0
        have hPt : P = true := HPd.out.2 ⟨HAll.out, hlRest_of fun a k1 k2 k3 => HPs.out a ((HK2.out a).2 ⟨k1, k2, k3⟩) (hl0 _)⟩
        subst hPt
        gi_wp2
        have hst : Wr (fun b => b = w.heap.size + 1) wr (wr.setCell ⟨w.heap.size + 1, 0, none⟩ (.bool true)) := (Wr.refl (fun b => b = w.heap.size + 1) _).setCell (p := ⟨w.heap.size + 1, 0, none⟩) rfl _
        have hK5 := (hst.block _ (Array.getElem?_eq_some_iff.1 HK.out).1 (by omega)).trans HK.out
        have hwn := wr_none (d' := none) hK5
        have y0 := cell_wr hwn (World.cell?_setCell_same _ _ (.bool true) h4) (by first | omega | (dsimp only; omega))
        have hB5 := (H6.out.trans (hst.below H6.out.size (fun b e => by omega))).trans (hwn.below (Nat.le_trans H6.out.size hst.size) (fun b e => by omega))
        simp only [hs4, hs3] at hK5 y0 hB5
        refine ⟨by simp, .inl ⟨_, _, rfl, run_takeDeferred hK5, ?_⟩⟩
        exact ⟨.bool true, by simp [results, Tryz.results53, go_sem, y0], rfl, hB5⟩
      · intro x c kl yd yp w1 cnt1 hkey hlk hv hat hrg1 hlt hg1 hs1 hen
        obtain ⟨x', e1, rfl, _⟩ := Maps.keyOf_int_inv Tryz.underlying2 hkey
        obtain rfl : x = x' := by injection e1
        have hh := Maps.has_true_of_atKey hat
        obtain ⟨g0, g1, g2⟩ := (HK2.out x).1 hh
        have k1 := Ku.of_grown hg1
        have hne : ∀ b, b ≤ w4.heap.size → ¬ (some rr = some b) := fun b hb e => by have := Option.some.inj e; omega
        have hl4 : w.heap.size + 1 < wr.heap.size := World.block_lt_of_cell? _ _ h4
        have h41 := k1.cell h4 (hne _ (by omega))
        have hK1 := (k1.block _ (Array.getElem?_eq_some_iff.1 HK.out).1 (hne _ (Nat.le_refl _))).trans HK.out
        have hF1 : ∀ o, w1.frozen? ⟨w.heap.size + 1, o, none⟩ = false := fun o => (k1.frozen hl4 (hne _ (by omega))).trans (H5.out o)
        have hB1 := H6.out.trans (k1.below H6.out.size (fun b e => by
          rcases Nat.lt_or_ge b w.heap.size with h9 | h9
          · exact absurd e (hne b (by omega))
          · exact h9))
        have f41 := hF1 0
        have HF1 := hide hF1
        have HB1 := hide hB1
        have HK1 := hide hK1
        have HR1 := hide hrg1
        clear hkey hv hat hg1 hs1 hF1 hB1 hK1 hrg1 k1 h4 f4
        gi_wp2
        refine ⟨trivial, (callsIn_wide.2 (isPassedOverI x w1)).mono ?_⟩
        rintro e w5 ⟨rfl, hw5⟩
        subst hw5
        by_cases hps : psB x
        · rw [decide_eq_true hps]
          gi_wp2
          go_roundw
          case rel =>
            refine ⟨_, cnt1, HR1.out, fun y hy hl => ?_, h41, HF1.out, HB1.out, HK1.out⟩
            by_cases hyx : y = x
            · rw [hyx]; exact hps
            · refine HPs.out y hy ?_
              have h9 : (Lit.int IntKind.i64 y).sameKey (.int .i64 x) = false := by
                cases hq : (Lit.int IntKind.i64 y).sameKey (.int .i64 x) with
                | false => rfl
                | true => exact absurd (by have h8 := WideAt.sameKey_eq hq; injection h8) hyx
              have hl' : (left (.int .i64 y) && !(Lit.int IntKind.i64 y).sameKey (.int .i64 x)) = false := hl
              rw [h9] at hl'
              simpa using hl'
          case measure => rw [HR1.out.left_eq, HR.out.left_eq]; exact hlt
        · rw [decide_eq_false hps]
          have hPf : P = false := by
            cases hPb : P with
            | false => rfl
            | true => exact absurd (HPd.out.1 hPb).2 (hlRest_no g0 g1 g2 hps)
          subst hPf
          gi_wp2
          have hst : Wr (fun b => b = w.heap.size + 1) w5 (w5.setCell ⟨w.heap.size + 1, 0, none⟩ (.bool false)) := (Wr.refl (fun b => b = w.heap.size + 1) _).setCell (p := ⟨w.heap.size + 1, 0, none⟩) rfl _
          have hK5 := (hst.block _ (Array.getElem?_eq_some_iff.1 HK1.out).1 (by omega)).trans HK1.out
          have hwn := wr_none (d' := none) hK5
          have y0 := cell_wr hwn (World.cell?_setCell_same _ _ (.bool false) h41) (by first | omega | (dsimp only; omega))
          have hB5 := (HB1.out.trans (hst.below HB1.out.size (fun b e => by omega))).trans (hwn.below (Nat.le_trans HB1.out.size hst.size) (fun b e => by omega))
          simp only [hs4, hs3] at hK5 y0 hB5
          refine ⟨by simp, .inl ⟨_, _, rfl, run_takeDeferred hK5, ?_⟩⟩
          exact ⟨.bool false, by simp [results, Tryz.results53, go_sem, y0], rfl, hB5⟩
end Go.Proofs.YtlmaopljihbdkaaGreat
