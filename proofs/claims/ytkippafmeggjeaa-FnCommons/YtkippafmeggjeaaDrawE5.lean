/- Chapter 9, draws: 'spec.l9Two', 'spec.DrawCommonOf', walked. -/
import Derived.Test.YtkippafmeggjeaaDrawE3
import Derived.Test.YtkippafmeggjeaaTear
namespace Go.Proofs.Ytkippafmeggjeaa
open Go.RowKit

/-- The cap of a slice is no smaller than its length. -/
def capE : Value → Prop
  | .slice _ n c => n ≤ c
  | _ => True
theorem EoRow.cap {P : Nat → Prop} {w : World} {v : Value} {k : Nat} {gs : List Oj} (h : EoRow P w v k gs) : capE v := by
  obtain ⟨V, h1, _⟩ := h
  rcases h1.2 with ⟨rfl, e⟩ | ⟨g, cap, cur, rfl, _, _, hc, _⟩
  · exact Nat.le_refl 0
  · exact hc
/-- What lies where in entries that were appended one by one. -/
theorem EoRow.lie {P : Nat → Prop} {w : World} {g cap k : Nat} {gs : List Oj} (h : EoRow P w (.slice (some ⟨g, 0, none⟩) k cap) k gs) :
    ∃ V : Nat → Value, (∀ o, w.frozen? ⟨g, o, none⟩ = false) ∧ P g ∧ g < w.heap.size ∧ (∀ i, i < k → w.cell? ⟨g, i * 3, none⟩ = some (.int .i64 (gs.getD i oj0).1) ∧ w.cell? ⟨g, i * 3 + 1, none⟩ = some (.int .i64 (gs.getD i oj0).2.1) ∧ w.cell? ⟨g, i * 3 + 2, none⟩ = some (V i)) ∧
      (∀ i, i < k → w.ownsRow 0 2 1 (V i) (gs.getD i oj0).2.2.length ((gs.getD i oj0).2.2.map (Value.int .i64)) ∧ ∀ r, (V i).ownBlock = some r → P r ∧ r ≠ g) ∧ ∀ i j, i < k → j < k → i ≠ j → ∀ r, (V i).ownBlock = some r → (V j).ownBlock ≠ some r := by
  obtain ⟨V, h1, h2, h3⟩ := h
  refine ⟨V, fun o => h1.frozenAt o, h2 g rfl, (h1.lt g rfl).2, fun i hi => ⟨?_, ?_, ?_⟩, fun i hi => ⟨(h3.1 i hi).1, fun r hr => ⟨((h3.1 i hi).2 r hr).1, fun e => ((h3.1 i hi).2 r hr).2 (by rw [e]; rfl)⟩⟩, h3.2⟩
  · rw [h1.cellAt (i * 3) (by omega)]
    exact cellsEn_flg _ _ _ _ hi
  · rw [h1.cellAt (i * 3 + 1) (by omega)]
    exact cellsEn_num _ _ _ _ hi
  · rw [h1.cellAt (i * 3 + 2) (by omega)]
    exact cellsEn_words _ _ _ _ hi
theorem rd_ownsE {w : World} {e : Nat} {v : Value} {xs : List Int} (h : w.ownsRow 0 e 1 v xs.length (xs.map (Value.int .i64))) (hm : xs.length ≤ 1048576) : RdI (fun b => v.ownBlock = some b) w v xs := by
  have hO := ow_of_owns rfl h (by omega)
  rcases h.2 with ⟨e1, e2⟩ | ⟨g2, cap2, cur2, e1, _⟩
  · subst e1
    exact ⟨none, 0, by rw [e2], by omega, fun hne => absurd (List.eq_nil_of_length_eq_zero e2) hne⟩
  · obtain ⟨b, q1, q2⟩ := hO
    refine q1.narrow fun hne x hxb => ?_
    subst hxb
    obtain ⟨ao', c', f1, f2, f3⟩ := q1
    obtain ⟨b', off', f4, f5, f6⟩ := f3 hne
    subst e1
    injection f1 with f1 _ _
    rw [f4] at f1
    injection f1 with f1
    injection f1 with f1 _
    show some g2 = some x
    rw [← f5, ← f1]
/-- The term of the i-th entry is another one. -/
theorem EoRow.setTerm {P : Nat → Prop} {w : World} {g cap k : Nat} {gs : List Oj} (h : EoRow P w (.slice (some ⟨g, 0, none⟩) k cap) k gs) (hk : gs.length = k) (hm : k ≤ 1048576) (hl : ∀ p, p ∈ gs → p.2.2.length ≤ 1048576) (i : Nat) (x : Int) :
    RdJ (fun _ => True) (w.setCell ⟨g, i * 3 + 1, none⟩ (.int .i64 x)) (.slice (some ⟨g, 0, none⟩) k cap) (gs.set i ((gs.getD i oj0).1, x, (gs.getD i oj0).2.2)) := by
  obtain ⟨V, hf, hP, hgl, hc, ho, _⟩ := h.lie
  have hlen : (gs.set i ((gs.getD i oj0).1, x, (gs.getD i oj0).2.2)).length = k := by rw [List.length_set]; exact hk
  refine ⟨_, cap, by rw [hlen], by rw [hlen]; omega, fun _ => ⟨g, 0, V, rfl, trivial, fun j hj => ?_⟩⟩
  rw [hlen] at hj
  obtain ⟨c0, c1, c2⟩ := hc j hj
  have hjl : j < gs.length := by omega
  have hR := rd_ownsE (ho j hj).1 (hl _ (by simp [List.getD, hjl]))
  have hR' : RdI (fun _ => True) (w.setCell ⟨g, i * 3 + 1, none⟩ (.int .i64 x)) (V j) (gs.getD j oj0).2.2 :=
    (hR.wr ((Wr.refl (fun y => y = g) _).setCell (p := ⟨g, i * 3 + 1, none⟩) rfl _) (fun _ b hb e => ((ho j hj).2 b hb).2 e)).narrow fun _ _ _ => trivial
  simp only [Nat.zero_add]
  by_cases e : i = j
  · subst e
    have e2 : (gs.set i ((gs.getD i oj0).1, x, (gs.getD i oj0).2.2)).getD i oj0 = ((gs.getD i oj0).1, x, (gs.getD i oj0).2.2) := by simp [List.getD, hjl]
    rw [e2]
    refine ⟨?_, ?_, ?_, hR'⟩
    · rw [World.cell?_setCell_other _ _ _ _ (by intro h'; injection h' with _ h2; omega)]; exact c0
    · exact World.cell?_setCell_same _ _ _ c1
    · rw [World.cell?_setCell_other _ _ _ _ (by intro h'; injection h' with _ h2; omega)]; exact c2
  · have e2 : (gs.set i ((gs.getD i oj0).1, x, (gs.getD i oj0).2.2)).getD j oj0 = gs.getD j oj0 := by simp [List.getD, List.getElem?_set_ne e]
    rw [e2]
    refine ⟨?_, ?_, ?_, hR'⟩
    · rw [World.cell?_setCell_other _ _ _ _ (by intro h'; injection h' with _ h2; omega)]; exact c0
    · rw [World.cell?_setCell_other _ _ _ _ (by intro h'; injection h' with _ h2; omega)]; exact c1
    · rw [World.cell?_setCell_other _ _ _ _ (by intro h'; injection h' with _ h2; omega)]; exact c2
/-- One word more to the i-th entry. -/
theorem EoRow.setData {w w3 : World} {g cap k : Nat} {gs : List Oj} {V : Nat → Value} {o : Obj} {g2 cap2 i : Nat} {x : Int} {P : Nat → Prop} (hgl : g < w.heap.size) (hc : ∀ i, i < k → w.cell? ⟨g, i * 3, none⟩ = some (.int .i64 (gs.getD i oj0).1) ∧ w.cell? ⟨g, i * 3 + 1, none⟩ = some (.int .i64 (gs.getD i oj0).2.1) ∧ w.cell? ⟨g, i * 3 + 2, none⟩ = some (V i))
    (ho : ∀ i, i < k → w.ownsRow 0 2 1 (V i) (gs.getD i oj0).2.2.length ((gs.getD i oj0).2.2.map (Value.int .i64)) ∧ ∀ r, (V i).ownBlock = some r → P r ∧ r ≠ g) (hd : ∀ i j, i < k → j < k → i ≠ j → ∀ r, (V i).ownBlock = some r → (V j).ownBlock ≠ some r)
    (hk : gs.length = k) (hm : k ≤ 1048576) (hl : ∀ p, p ∈ gs → p.2.2.length ≤ 1000) (hi : i < k)
    (hown : w3.ownsRow 0 2 1 (.slice (some ⟨g2, 0, none⟩) ((gs.getD i oj0).2.2.length + 1) cap2) ((gs.getD i oj0).2.2.length + 1) ((gs.getD i oj0).2.2.map (Value.int .i64) ++ [.int .i64 x])) (hg : (w.alloc o).grownBy w3 (V i).ownBlock) (hat : (V i).ownBlock = some g2 ∨ g2 = w.heap.size + 1) :
    RdJ (fun _ => True) (w3.setCell ⟨g, i * 3 + 2, none⟩ (.slice (some ⟨g2, 0, none⟩) ((gs.getD i oj0).2.2.length + 1) cap2)) (.slice (some ⟨g, 0, none⟩) k cap) (gs.set i ((gs.getD i oj0).1, (gs.getD i oj0).2.1, (gs.getD i oj0).2.2 ++ [x])) := by
  have hlen : (gs.set i ((gs.getD i oj0).1, (gs.getD i oj0).2.1, (gs.getD i oj0).2.2 ++ [x])).length = k := by rw [List.length_set]; exact hk
  have hmem : ∀ j, j < k → gs.getD j oj0 ∈ gs := by
    intro j hj
    have hj' : j < gs.length := by omega
    simp [List.getD, hj']
  have hcell : ∀ o, w3.cell? ⟨g, o, none⟩ = w.cell? ⟨g, o, none⟩ := fun o => (hg.cell_far ⟨g, o, none⟩ (by simp; omega) (fun e => ((ho i hi).2 g e.symm).2 rfl)).trans ((bcell (below_alloc w _)).1 _ _ hgl)
  have hgg : g2 ≠ g := by
    rcases hat with h | h
    · exact ((ho i hi).2 g2 h).2
    · omega
  let z : Value := .slice (some ⟨g2, 0, none⟩) ((gs.getD i oj0).2.2.length + 1) cap2
  refine ⟨_, cap, by rw [hlen], by rw [hlen]; omega, fun _ => ⟨g, 0, fun j => if j = i then z else V j, rfl, trivial, fun j hj => ?_⟩⟩
  rw [hlen] at hj
  obtain ⟨c0, c1, c2⟩ := hc j hj
  simp only [Nat.zero_add]
  have hjl : j < gs.length := by omega
  by_cases e : j = i
  · subst e
    have e2 : (gs.set j ((gs.getD j oj0).1, (gs.getD j oj0).2.1, (gs.getD j oj0).2.2 ++ [x])).getD j oj0 = ((gs.getD j oj0).1, (gs.getD j oj0).2.1, (gs.getD j oj0).2.2 ++ [x]) := by simp [List.getD, hjl]
    rw [e2, if_pos rfl]
    have hR := rd_ownsE (v := z) (xs := (gs.getD j oj0).2.2 ++ [x]) (by rw [List.length_append, List.map_append]; exact hown) (by have h9 := hl _ (hmem j hj); rw [List.length_append, List.length_singleton]; omega)
    refine ⟨?_, ?_, World.cell?_setCell_same _ _ _ ((hcell _).trans c2), ?_⟩
    · rw [World.cell?_setCell_other _ _ _ _ (by intro h'; injection h' with _ h2; omega), hcell]; exact c0
    · rw [World.cell?_setCell_other _ _ _ _ (by intro h'; injection h' with _ h2; omega), hcell]; exact c1
    · refine (hR.wr ((Wr.refl (fun y => y = g) _).setCell (p := ⟨g, j * 3 + 2, none⟩) rfl _) (fun _ b hb e => ?_)).narrow fun _ _ _ => trivial
      have hb' : some g2 = some b := hb
      injection hb' with hb'
      exact hgg (hb'.trans e)
  · have e2 : (gs.set i ((gs.getD i oj0).1, (gs.getD i oj0).2.1, (gs.getD i oj0).2.2 ++ [x])).getD j oj0 = gs.getD j oj0 := by simp [List.getD, List.getElem?_set_ne (Ne.symm e)]
    rw [e2, if_neg e]
    have hR := rd_ownsE ((ownsRow_later (ho j hj).1 (below_alloc w o)).kept hg (by
      cases e3 : (V j).ownBlock with
      | none => exact Or.inl rfl
      | some q => exact Or.inr (fun e4 => hd j i hj hi e q e3 e4.symm))) (by have := hl _ (hmem j hj); omega)
    refine ⟨?_, ?_, ?_, ?_⟩
    · rw [World.cell?_setCell_other _ _ _ _ (by intro h'; injection h' with _ h2; omega), hcell]; exact c0
    · rw [World.cell?_setCell_other _ _ _ _ (by intro h'; injection h' with _ h2; omega), hcell]; exact c1
    · rw [World.cell?_setCell_other _ _ _ _ (by intro h'; injection h' with _ h2; omega), hcell]; exact c2
    · exact (hR.wr ((Wr.refl (fun y => y = g) _).setCell (p := ⟨g, i * 3 + 2, none⟩) rfl _) (fun _ b hb e => ((ho j hj).2 b hb).2 e)).narrow fun _ _ _ => trivial
/-- The first m of a reading. -/
theorem RdJ.upto {S : Nat → Prop} {w : World} {ao : Option Addr} {n c : Nat} {gs : List Oj} (h : RdJ S w (.slice ao n c) gs) (m : Nat) (hm : m ≤ n) : RdJ S w (.slice ao m c) (gs.take m) := by
  obtain ⟨ao', c', e1, e2, e3⟩ := h
  injection e1 with e1 e4 e5
  subst e1 e4
  have hl : (gs.take m).length = m := by simp; omega
  refine ⟨ao, c, by rw [hl], by rw [hl]; omega, fun hne => ?_⟩
  obtain ⟨b, off, V, f1, f2, f3⟩ := e3 (by rintro rfl; simp at hne)
  refine ⟨b, off, V, f1, f2, fun j hj => ?_⟩
  rw [hl] at hj
  have e : (gs.take m).getD j oj0 = gs.getD j oj0 := by simp [List.getD, hj]
  rw [e]
  exact f3 j (by omega)
theorem RdJ.laterE {S : Nat → Prop} {w w' : World} {v : Value} {gs : List Oj} {M : Nat} (h : RdJ (fun b => S b ∧ b < M) w v gs) (hb : Below M w w') : RdJ (fun b => S b ∧ b < M) w' v gs := by
  obtain ⟨ao, c, h1, h2, h3⟩ := h
  refine ⟨ao, c, h1, h2, fun hne => ?_⟩
  obtain ⟨b, off, V, e, hs, hc⟩ := h3 hne
  have cl : ∀ o, w'.cell? ⟨b, o, none⟩ = w.cell? ⟨b, o, none⟩ := fun o => hb.cell (p := ⟨b, o, none⟩) hs.2
  refine ⟨b, off, V, e, hs, fun i hi => ⟨(cl _).trans (hc i hi).1, (cl _).trans (hc i hi).2.1, (cl _).trans (hc i hi).2.2.1, ?_⟩⟩
  obtain ⟨ao', c', g1, g2, g3⟩ := (hc i hi).2.2.2
  refine ⟨ao', c', g1, g2, fun hne' => ?_⟩
  obtain ⟨b', off', k1, k2, k3⟩ := g3 hne'
  exact ⟨b', off', k1, k2, fun j hj => (hb.cell (p := ⟨b', off' + j, none⟩) k2.2).trans (k3 j hj)⟩

set_option linter.unusedSimpArgs false in
set_option maxHeartbeats 8000000 in
set_option maxRecDepth 4000 in
theorem l9Two {w : World} {v : Value} {bs : List Nat} (hv : RdB w.heap.size w v bs) :
    Calls Try.prog 39 #[v] w fun e w' => ∃ (y z : Value) (ps qs : List Oj), e = .returned (.tuple #[y, z]) ∧ Below w.heap.size w w' ∧ RdJ (fun _ => True) w' y ps ∧ RdJ (fun _ => True) w' z qs ∧ capE y ∧ capE z ∧ ps.length ≤ 16 ∧ qs.length ≤ 16 := by
  have HV := hide hv
  obtain ⟨i0, hi, hz0, hz1, hz2⟩ := info_parts Try.infoInt
  obtain ⟨ao, c, rfl, h2, h3⟩ := hv
  clear h2 h3
  go_enter Try.func39, Try.ntmps39
  go_wp2_with fail
  refine (l1Source HV.out).mono ?_
  rintro e w1 ⟨rfl, hb1, hz1', hS1⟩
  have HB1 := hide hb1
  have HS1 := hide hS1
  clear hb1 hS1
  go_wp2_with fail
  refine (l1Next 8 HS1.out (by omega) (by omega) (by omega)).mono ?_
  rintro e w2 ⟨r, rfl, ra, rb, t2, hd2⟩
  have rb' := rb (by omega)
  obtain ⟨n, rfl⟩ : ∃ n : Nat, r = (n : Int) := ⟨r.toNat, (Int.toNat_of_nonneg ra).symm⟩
  have HS2 := hide hd2.1
  have hs2 := hd2.2.1.size
  have ht2 := hd2.2.2
  have HB2 := hide (HB1.out.trans (hd2.2.1.below (by omega) (fun b hb => by omega)))
  clear hd2 rb HB1 HS1
  go_wp2_with fail
  refine (l9Draw HS2.out (by omega) 1 1 n (by omega) (by omega) (by omega) (by omega) (by omega)).mono ?_
  rintro e w3 ⟨z3, gs, rfl, hgl, hpl, hrow, t3, hd3⟩
  obtain ⟨a3, c3, hz3⟩ := hrow.shape
  subst hz3
  have hcap3 := hrow.cap
  have HS3 := hide hd3.1
  have hs3 := hd3.2.1.size
  have ht3 := hd3.2.2
  have HB3 := hide (HB2.out.trans (hd3.2.1.below (by omega) (fun b hb => by omega)))
  have hmem : ∀ i, i < gs.length → gs.getD i oj0 ∈ gs := fun i hi => by simp [List.getD, hi]
  have HRa := hide (hrow.lt.rdP hgl (by omega) (fun i hi => by have := hpl _ (hmem i hi); omega))
  have HCap3 := hide hcap3
  have HGl := hide hgl
  have HPl := hide hpl
  have HCo := hide (l9CopyOwn HRa.out (by rw [hgl]; omega) (fun i hi => by have := hpl _ (hmem i hi); omega))
  rw [hgl] at HCo
  clear hrow hd3 hcap3 HB2 HS2 hgl hpl hmem
  go_wp2_with fail
  refine HCo.out.mono ?_
  rintro e w4 ⟨z4, rfl, hb4, hrow⟩
  have HS4 := hide (HS3.out.later hb4)
  have hs4 := hb4.size
  have HRa4 := hide (HRa.out.laterE hb4)
  have HB4 := hide (HB3.out.trans (hb4.mono (by omega)))
  have HRow := hide hrow
  have HCap4 := hide hrow.cap
  have HRb := hide (hrow.rd HGl.out (by omega) (fun i hi => by have h1 : gs.getD i oj0 ∈ gs := (by simp [List.getD, hi]); have := HPl.out _ h1; omega))
  obtain ⟨a4, c4, hz4⟩ := hrow.shape
  subst hz4
  clear hb4 hrow HB3 HS3 HRa HCo
  have fin : Hid (∀ (w6 wx : World) (z : Value) (qs : List Oj), RdJ (fun b => w2.heap.size ≤ b ∧ b < w3.heap.size) w6 (.slice a3 n c3) gs → Below w.heap.size w w6 → Below w3.heap.size w6 wx → RdJ (fun _ => True) wx z qs → capE z → qs.length ≤ 16 → ∃ (y z' : Value) (ps qs : List Oj), Ending.returned (Value.tuple #[.slice a3 n c3, z]) = .returned (.tuple #[y, z']) ∧ Below w.heap.size w wx ∧ RdJ (fun _ => True) wx y ps ∧ RdJ (fun _ => True) wx z' qs ∧ capE y ∧ capE z' ∧ ps.length ≤ 16 ∧ qs.length ≤ 16) := by
    intro w6 wx z qs hra hb0 hb hr hc hl
    refine ⟨_, _, gs, qs, rfl, hb0.trans (hb.mono (by omega)), ?_, hr, HCap3.out, hc, by rw [HGl.out]; omega, hl⟩
    obtain ⟨ao, c, h1, h2, h3⟩ := hra.laterE hb
    refine ⟨ao, c, h1, h2, fun hne => ?_⟩
    obtain ⟨b, off, V, e, hs, hc⟩ := h3 hne
    exact ⟨b, off, V, e, trivial, fun i hi => ⟨(hc i hi).1, (hc i hi).2.1, (hc i hi).2.2.1, (hc i hi).2.2.2.narrow fun _ _ _ => trivial⟩⟩
  by_cases hn0 : 0 < n
  · have hni : (0 : Int) < (n : Int) := by omega
    obtain ⟨g, ha4⟩ : ∃ g, a4 = some ⟨g, 0, none⟩ := by
      obtain ⟨V, h1, _⟩ := HRow.out
      rcases h1.2 with ⟨_, e⟩ | ⟨g, cap, cur, e, _⟩
      · omega
      · injection e with e _ _
        exact ⟨g, e⟩
    subst ha4
    go_wp2_with fail
    refine (l1Next 4 HS4.out (by omega) (by omega) (by omega)).mono ?_
    rintro e w5 ⟨k, rfl, ka, kb, t5, hd5⟩
    have HS5 := hide hd5.1
    have hs5 := hd5.2.1.size
    have ht5 := hd5.2.2
    have HRow5 := hide (HRow.out.drawn hd5.2.1 (by omega))
    have HRa5 := hide (HRa4.out.wr hd5.2.1 (fun b hb e => by omega))
    have HB5 := hide (HB4.out.trans (hd5.2.1.below (by omega) (fun b hb => by omega)))
    have hgl2 : w3.heap.size ≤ g := HRow5.out.lie.choose_spec.2.1
    clear hd5 kb HS4 HRow HRa4 HRb HB4
    by_cases hk0 : k = 0
    · subst hk0
      go_wp2_with fail
      refine (l1Next (n : Int) HS5.out (by omega) (by omega) (by omega)).mono ?_
      rintro e w6 ⟨r, rfl, ra, rb, t6, hd6⟩
      have rb' := rb (by omega)
      obtain ⟨i, rfl⟩ : ∃ i : Nat, r = (i : Int) := ⟨r.toNat, (Int.toNat_of_nonneg ra).symm⟩
      have hs6 := hd6.2.1.size
      have HRow6 := hide (HRow5.out.drawn hd6.2.1 (by omega))
      have HRa6 := hide (HRa5.out.wr hd6.2.1 (fun b hb e => by omega))
      have HB6 := hide (HB5.out.trans (hd6.2.1.below (by omega) (fun b hb => by omega)))
      have HRb6 := hide ((HRow6.out.rd HGl.out (by omega) (fun i hi => by have h1 : gs.getD i oj0 ∈ gs := (by simp [List.getD, hi]); have := HPl.out _ h1; omega)).upto i (by omega))
      have hcap : n ≤ c4 := HCap4.out
      have hs1 : (i : Int) ≤ (c4 : Int) := by omega
      have hs2 : (0 : Int) ≤ (c4 : Int) := by omega
      have hs3 : ¬ (i : Int) < 0 := by omega
      have hs4 : ¬ c4 = 0 := by omega
      clear hd6 rb HRow5 HRa5 HB5 HS5
      go_wp2
      refine bodyPost_ret (v := .tuple #[.slice a3 n c3, .slice (some ⟨g, 0, none⟩) i c4]) (by simp [results, Try.results39, go_sem]) rfl (fin.out w6 w6 _ (gs.take i) HRa6.out HB6.out (Below.refl _ _) HRb6.out (show i ≤ c4 by omega) (by simp; omega))
    by_cases hk1 : k = 1
    · subst hk1
      go_wp2_with fail
      refine (l1Next (n : Int) HS5.out (by omega) (by omega) (by omega)).mono ?_
      rintro e w6 ⟨r, rfl, ra, rb, t6, hd6⟩
      have rb' := rb (by omega)
      obtain ⟨i, rfl⟩ : ∃ i : Nat, r = (i : Int) := ⟨r.toNat, (Int.toNat_of_nonneg ra).symm⟩
      have hs6 := hd6.2.1.size
      have HRow6 := hide (HRow5.out.drawn hd6.2.1 (by omega))
      have HRa6 := hide (HRa5.out.wr hd6.2.1 (fun b hb e => by omega))
      have HB6 := hide (HB5.out.trans (hd6.2.1.below (by omega) (fun b hb => by omega)))
      obtain ⟨V, hf, hP, hgl, hc, ho, _⟩ := HRow6.out.lie
      have c1 := (hc i (by omega)).2.1
      have f1 := hf (i * 3 + 1)
      obtain ⟨tm, htm⟩ : ∃ x, (gs.getD i oj0).2.1 = x := ⟨_, rfl⟩
      rw [htm] at c1
      have hin : (i : Int) < (n : Int) := by omega
      have hi0 : (0 : Int) ≤ (i : Int) := by omega
      have HFin := hide (fun x => HRow6.out.setTerm HGl.out (by omega) (fun p hp => by have := HPl.out p hp; omega) i x)
      clear hd6 rb HRow5 HRa5 HB5 HS5 hf hP hc ho htm
      go_wp2
      refine bodyPost_ret (v := .tuple #[.slice a3 n c3, .slice (some ⟨g, 0, none⟩) n c4]) (by simp [results, Try.results39, go_sem]) rfl (fin.out w6 _ _ _ HRa6.out HB6.out ((Below.refl _ _).setCell (by simp; omega) _) (HFin.out _) HCap4.out (by rw [List.length_set, HGl.out]; omega))
    by_cases hk2 : k = 2
    · subst hk2
      obtain ⟨l, hl⟩ : ∃ l, n = l + 1 := ⟨n - 1, by omega⟩
      have hln : l < n := by omega
      have hw1 : IntKind.i64.wrap ((n : Int) - 1) = (l : Int) := by simp [IntKind.wrap, IntKind.bits, IntKind.signed]; omega
      have hl0 : (0 : Int) ≤ (l : Int) := by omega
      have hl1 : (l : Int) < (n : Int) := by omega
      obtain ⟨V, hf, hP, hgl, hc, ho, hd⟩ := HRow5.out.lie
      have c2 := (hc l hln).2.2
      have f2 := hf (l * 3 + 2)
      have HOl := hide (ho l hln).1
      obtain ⟨az, cz, hVl⟩ := owns_shapeR HOl.out
      have HMem : gs.getD l oj0 ∈ gs := by have : l < gs.length := (by rw [HGl.out]; exact hln); simp [List.getD, this]
      have hm4 := HPl.out _ HMem
      have HSd := hide (fun (w3' : World) (g2 cap2 : Nat) (o : Obj) hown hg hat => EoRow.setData (w := w5) (w3 := w3') (g := g) (cap := c4) (k := n) (gs := gs) (V := V) (o := o) (g2 := g2) (cap2 := cap2) (i := l) (x := 1) hgl hc ho hd HGl.out (by omega) (fun p hp => by have := HPl.out p hp; omega) hln hown hg hat)
      obtain ⟨q, hq⟩ : ∃ q, (gs.getD l oj0).2.2.length = q := ⟨_, rfl⟩
      rw [hVl] at c2 HSd
      rw [hVl] at HOl
      rw [hq] at c2 HOl HSd hm4
      have hgr : ∀ r, (Value.slice az q cz).ownBlock = some r → w3.heap.size ≤ r ∧ r ≠ g := fun r hr => (ho l hln).2 r (by rw [hVl, hq]; exact hr)
      have HGr := hide hgr
      have HGl3 := hide hgl
      have HPre : Hid (∀ (g2 cap2 : Nat) (w7 : World), (w5.alloc (.cells #[.int .i64 1] 2)).grownBy w7 (Value.slice az q cz).ownBlock → w7.cell? ⟨g, l * 3 + 2, none⟩ = some (.slice az q cz) ∧ w7.frozen? ⟨g, l * 3 + 2, none⟩ = false ∧ Below w3.heap.size w5 w7) := by
        intro g2 cap2 w7 hgrow
        exact ⟨(hgrow.cell_far ⟨g, l * 3 + 2, none⟩ (by simp; omega) (fun e => (HGr.out g e.symm).2 rfl)).trans (((bcell (below_alloc w5 _)).1 _ _ HGl3.out).trans c2), (hgrow.frozen_far ⟨g, l * 3 + 2, none⟩ (by simp; omega) (fun e => (HGr.out g e.symm).2 rfl)).trans (((bcell (below_alloc w5 _)).2 _ _ HGl3.out).trans f2), ((below_alloc w5 _).mono (by omega)).grown hgrow (by simp; omega) (fun r hr => (HGr.out r hr).1)⟩
      clear hc ho hd hf hP hVl hq hgr HMem hl
      go_wp2_with (at_builtin; refine wpList_append_lies _ rfl _ _ _ rfl 0 2 i0 (.int .i64 0) 1 8 Try.underlying24 hi hz0 hz1 hz2 rfl (by omega) _ q _ (by rfl) (HOl.out.alloc (.cells #[.int .i64 1] 2)) ⟨w5.heap.size, 0, none⟩ 1 1 [.int .i64 1] (by rfl) (by rfl) (World.news_of_block (cs := #[.int .i64 1]) (t := 2) (fr := (0, 0)) (heap_alloc_new w5 _)) (by simp [Value.oneCell']) (by omega) (by unfold maxLen; omega) (by omega) (Nat.zero_le _) (w5.heap.size + 1) (by simp) ?_; intro g2 cap2 w7 hown hgrow hat hlt7; obtain ⟨d2, df2, db⟩ := HPre.out g2 cap2 w7 hgrow; have HDb := hide db; have HFin := hide (HSd.out w7 g2 cap2 _ hown hgrow (by simpa using hat)); clear hown hgrow hat hlt7 db)
      refine bodyPost_ret (v := .tuple #[.slice a3 n c3, .slice (some ⟨g, 0, none⟩) n c4]) (by simp [results, Try.results39, go_sem]) rfl (fin.out w5 _ _ _ HRa5.out HB5.out (HDb.out.setCell (by simp; omega) _) HFin.out HCap4.out (by rw [List.length_set, HGl.out]; omega))
    · have HRb5 := hide (HRow5.out.rd HGl.out (by omega) (fun i hi => by have h1 : gs.getD i oj0 ∈ gs := (by simp [List.getD, hi]); have := HPl.out _ h1; omega))
      go_wp2
      refine bodyPost_ret (v := .tuple #[.slice a3 n c3, .slice (some ⟨g, 0, none⟩) n c4]) (by simp [results, Try.results39, go_sem]) rfl (fin.out w5 w5 _ gs HRa5.out HB5.out (Below.refl _ _) HRb5.out HCap4.out (by rw [HGl.out]; omega))
  · have hni : ¬ (0 : Int) < (n : Int) := by omega
    go_wp2
    refine bodyPost_ret (v := .tuple #[.slice a3 n c3, .slice a4 n c4]) (by simp [results, Try.results39, go_sem]) rfl (fin.out w4 w4 _ gs HRa4.out HB4.out (Below.refl _ _) HRb.out HCap4.out (by rw [HGl.out]; omega))

theorem drawCommonOf {w : World} {v : Value} {bs : List Nat} (hv : RdB w.heap.size w v bs) :
    Calls Try.prog 17 #[v] w fun e w' => ∃ (y z : Value) (ps qs : List Oj), e = .returned (.tuple #[y, z]) ∧ Below w.heap.size w w' ∧ RdJ (fun _ => True) w' y ps ∧ RdJ (fun _ => True) w' z qs ∧ capE y ∧ capE z ∧ ps.length ≤ 16 ∧ qs.length ≤ 16 := by
  have HC := hide (l9Two hv)
  obtain ⟨ao, c, rfl, h2, h3⟩ := hv
  clear h2 h3
  go_enter Try.func17, Try.ntmps17
  go_wp2_with fail
  refine HC.out.mono ?_
  rintro e w1 ⟨y, z, ps, qs, rfl, h1, h2, h3, h4, h5, h6, h7⟩
  have H1 := hide (And.intro h1 (And.intro h2 (And.intro h3 (And.intro h4 (And.intro h5 (And.intro h6 h7))))))
  clear h1 h2 h3 h4 h5 h6 h7
  go_wp2
  refine bodyPost_ret (v := .tuple #[y, z]) (by simp [results, Try.results17, go_sem]) rfl ⟨y, z, ps, qs, rfl, H1.out⟩
end Go.Proofs.Ytkippafmeggjeaa
