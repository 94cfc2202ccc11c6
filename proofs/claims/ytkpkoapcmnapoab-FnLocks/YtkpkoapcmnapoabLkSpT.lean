/- Chapter 6, the model's side: 'l6Take', walked. -/
import Derived.Test.YtkpkoapcmnapoabLkTake2
import Derived.Test.YtkpkoapcmnapoabLkFree2
import Derived.Deep.RegionLaw
namespace Go.Proofs.Ytkpkoapcmnapoab
open Go.RowKit Go.Maps

theorem cellsW_get {xs : List Wn} {j : Nat} {u : Value} (h : (cellsW xs)[j]? = some u) : j / 2 < xs.length ∧ ((j % 2 = 0 ∧ u = .int .i64 (xs.getD (j / 2) wn0).1) ∨ (j % 2 = 1 ∧ u = .int .i64 (xs.getD (j / 2) wn0).2)) := by
  have hj : j < (cellsW xs).length := (List.getElem?_eq_some_iff.1 h).1
  rw [cellsW_len] at hj
  have h2 : j / 2 < xs.length := by omega
  obtain ⟨a1, a2⟩ := cellsW_at xs (j / 2) h2
  refine ⟨h2, ?_⟩
  rcases Nat.mod_two_eq_zero_or_one j with e | e
  · have e1 : j / 2 * 2 = j := by omega
    rw [e1, h] at a1
    exact Or.inl ⟨e, Option.some.inj a1⟩
  · have e1 : j / 2 * 2 + 1 = j := by omega
    rw [e1, h] at a2
    exact Or.inr ⟨e, Option.some.inj a2⟩
theorem RdO.part {S : Nat → Prop} {w : World} {ao : Option Addr} {n c : Nat} {os : List Wn} (h : RdO S w (.slice ao n c) os) (hne : os ≠ []) :
    ∃ b off, ao = some ⟨b, off, none⟩ ∧ b < w.heap.size ∧ ∀ p q, p + q ≤ os.length → ∀ j u, (cellsW ((os.drop p).take q))[j]? = some u → w.cell? ⟨b, off + p * 2 + j, none⟩ = some u := by
  obtain ⟨ao', c', h1, _, h3⟩ := h
  injection h1 with e1 e2 e3
  subst e1
  obtain ⟨b, off, e, _, hc⟩ := h3 hne
  refine ⟨b, off, e, World.block_lt_of_cell? _ _ (hc 0 (List.length_pos_iff.2 hne)).1, fun p q hpq j u hu => ?_⟩
  obtain ⟨hj, hu⟩ := cellsW_get hu
  simp at hj
  have hjq : j / 2 < q := by omega
  have eg : ((os.drop p).take q).getD (j / 2) wn0 = os.getD (p + j / 2) wn0 := by
    simp [List.getD, hjq]
  rw [eg] at hu
  obtain ⟨k1, k2⟩ := hc (p + j / 2) (by omega)
  rcases hu with ⟨e1, rfl⟩ | ⟨e1, rfl⟩
  · rw [show off + p * 2 + j = off + (p + j / 2) * 2 by omega]; exact k1
  · rw [show off + p * 2 + j = off + (p + j / 2) * 2 + 1 by omega]; exact k2
theorem cellsW_one (xs : List Wn) : ∀ u ∈ cellsW xs, u.oneCell' = true := by
  intro u hu
  obtain ⟨j, hj⟩ := List.mem_iff_getElem?.1 hu
  rcases (cellsW_get hj).2 with ⟨_, rfl⟩ | ⟨_, rfl⟩ <;> rfl
theorem cellsW_append (xs ys : List Wn) : cellsW (xs ++ ys) = cellsW xs ++ cellsW ys := by simp [cellsW]

/-- An append at a step of a region that draws, of a slice of whatever address where it holds nothing. -/
theorem step_append_any {P : Program} (w : World) {ops : Array Oper} {o : Oper} {a : Act} {K : Act → World → Prop} {Q : Exit → Act → World → Prop} {E : Prop} (hgd : o.guard = none) (s x : Operand) (t : TypeId)
    (ho : o.op = .call { callee := .builtin .append, args := #[s, x], argTypes := #[t, t] })
    (base : Nat) (e : TypeId) (i : TypeInfo) (z : Value) (size bytes : Nat) (ht : P.underlying t = some (.slice e)) (hi : P.info? e = some i) (hz : i.zero = some z)
    (hsize : i.size = size) (hby : i.bytes = bytes) (hzs : z.cells.size = size) (hsz : 0 < size)
    (v : Value) (n : Nat) (xs : List Value) (hs : a.eval s = v) (hown : w.ownsRow base e size v n xs)
    (ao : Option Addr) (m c : Nat) (news : List Value) (hx : a.eval x = .slice ao m c) (hl : news.length = m * size)
    (hnews : m ≠ 0 → ∃ ad, ao = some ad ∧ ∀ j u, news[j]? = some u → w.cell? (ad.add j) = some u) (h1 : ∀ u ∈ news, u.oneCell' = true)
    (h63 : n + m ≤ maxLen) (hbytes : (n + m) * bytes ≤ 140737488355328) (hbase : base ≤ w.heap.size)
    (h : ∀ v' w', w'.ownsRow base e size v' (n + m) (xs ++ news) → w.grownBy w' v.ownBlock → K (a.put o.dst v') w') :
    if Region.wanted o (yielded ops a.tmps) = true then Oper.wp P o a w K Q else E := by
  by_cases hm : m = 0
  · subst hm
    have hn : news = [] := List.eq_nil_of_length_eq_zero (by simpa using hl)
    subst hn
    have hw : Region.wanted o (yielded ops a.tmps) = true := by simp [Region.wanted, hgd]
    rw [if_pos hw]
    have hv : ∃ ad k, v = .slice ad n k ∧ n ≤ k := by
      rcases hown.2 with ⟨rfl, rfl⟩ | ⟨g, cap, cur, rfl, _, _, hnc, _⟩
      · exact ⟨_, _, rfl, Nat.le_refl _⟩
      · exact ⟨_, _, rfl, hnc⟩
    obtain ⟨ad, k, rfl, hk⟩ := hv
    have hrun := run_append_zero (P := P) w t o.type e i ht hi ad n k hk ao c
    have hh := h _ w (by simpa using hown) (World.grownBy.refl _ _)
    unfold Oper.wp execOp
    simp only [ho, resolve, invoke, builtin, Sem.run_bind, Sem.run_pure, Result.andThen_ok, List.map_toArray, List.map_cons, List.map_nil, hs, hx, hrun]
    exact hh
  · obtain ⟨ad, rfl, hc⟩ := hnews hm
    exact step_append_lies w hgd s x t ho base e i z size bytes ht hi hz hsize hby hzs hsz v n xs hs hown ad m c news hx hl hc h1 (by omega) h63 hbytes hbase _ rfl (fun g cap w' h2 h3 _ _ => h _ w' h2 h3)
theorem plc_snoc (os : List Wn) (a : Int) (k : Nat) (h : k < os.length) : plc (os.take (k + 1)) a = plc (os.take k) a + if (os.getD k wn0).1 < a then 1 else 0 := by
  rw [take_snoc os k h]
  unfold plc
  rw [List.countP_append]
  generalize os.getD k wn0 = o
  by_cases e : o.1 < a <;> simp [e]
theorem plc_full {os : List Wn} (h : Own os) {a : Int} {k : Nat} (hk : k < os.length) (hx : (os.getD k wn0).1 < a) : plc (os.take k) a = k := by
  have hl : (os.take k).length = k := by simp; omega
  unfold plc
  have : (os.take k).countP (fun o => decide (o.1 < a)) = (os.take k).length := by
    rw [List.countP_eq_length]
    intro o ho
    obtain ⟨i, hi, rfl⟩ := List.mem_iff_getElem.1 ho
    rw [hl] at hi
    have h1 := own_up h i k hi hk
    have e : (os.take k)[i] = os.getD i wn0 := by simp [List.getD, show i < os.length by omega]
    rw [e]
    exact decide_eq_true (by omega)
  rw [this, hl]
theorem tkF_state {os : List Wn} (h : Own os) {t a : Int} {k : Nat} (hk : k < os.length) (h0 : ownr os a ≠ t) (h1 : (os.getD k wn0).2 = t) (h2 : a < (os.getD k wn0).1) : tkF (ownr os) t a = 10 := by
  unfold tkF
  rw [if_neg h0, if_pos]
  have hm : os.getD k wn0 ∈ os := by simp [List.getD, hk]
  exact ⟨(os.getD k wn0).1, by rw [← h1]; exact (ownr_iff h (by have := own_mem h hm; omega)).2 hm, h2⟩
theorem tkF_rest {os : List Wn} (h : Own os) {t a : Int} (ht : 0 < t) (h0 : ownr os a ≠ t) (hn : ∀ i, i < os.length → ¬ ((os.getD i wn0).2 = t ∧ a < (os.getD i wn0).1)) : tkF (ownr os) t a = if ownr os a = 0 then 0 else 9 := by
  unfold tkF
  rw [if_neg h0, if_neg]
  rintro ⟨x, hx, hax⟩
  have hm := (ownr_iff h (by omega)).1 hx
  obtain ⟨i, hi, e⟩ := List.mem_iff_getElem.1 hm
  have e2 : os.getD i wn0 = (x, t) := by simp [List.getD, hi, e]
  exact hn i hi (by rw [e2]; exact ⟨rfl, hax⟩)

set_option maxHeartbeats 4000000 in
set_option maxRecDepth 4000 in
theorem l6Take {S : Nat → Prop} {w : World} {v : Value} {os : List Wn} (t a : Int) (hv : RdO S w v os) (ho : Own os) (ht : 0 < t) :
    Calls Try.prog 25 #[v, .int .i64 t, .int .i64 a] w (EndsO (tkF (ownr os) t a) (if tkF (ownr os) t a = 0 then tkL os t a else []) w) := by
  obtain ⟨ao, c, rfl⟩ := hv.shape
  have HV := hide hv
  have HO := hide ho
  obtain ⟨i0, hi, hz0, hz1, hz2⟩ := info_parts Try.infoOwner
  have h40 := ho.len
  obtain ⟨m, hm⟩ : ∃ m, os.length = m := ⟨_, rfl⟩
  have HM := hide hm
  rw [hm] at HV h40 ⊢
  clear hv hm ho
  obtain ⟨x, hx⟩ : ∃ x, ownr os a = x := ⟨_, rfl⟩
  have HX := hide hx
  by_cases hxt : x = t
  · have hF : tkF (ownr os) t a = 0 := by unfold tkF; rw [if_pos (by rw [hx]; exact hxt)]
    have hT : tkL os t a = os := by unfold tkL; rw [if_pos (by rw [hx]; exact hxt)]
    rw [hF, if_pos rfl, hT]
    subst hxt
    clear hx hF hT
    go_enter Try.func25, Try.ntmps25
    go_wp2_with fail
    refine (l6Owner a (HV.out.later (below_alloc _ _))).mono ?_
    rintro e w2 ⟨he, hb⟩
    rw [HX.out] at he
    subst he
    have HB2 := hide (below_on (below_alloc _ _) hb)
    have c0 : w2.cell? ⟨w.heap.size, 0, none⟩ = some (.int .i64 0) := cell_later hb (by simp [go_sem])
    have c1 : w2.cell? ⟨w.heap.size, 1, none⟩ = some (.slice none 0 0) := cell_later hb (by simp [go_sem])
    have f0 : ∀ o, w2.frozen? ⟨w.heap.size, o, none⟩ = false := fun o => ((bcell hb).2 _ _ (by simp)).trans (by simp [go_sem])
    have hw2 : w.heap.size < w2.heap.size := World.block_lt_of_cell? _ _ c0
    have bA := below_alloc w2 (.cells #[] 40)
    have HS : Hid (m ≠ 0 → ∃ ad, ao = some ad ∧ ∀ j u, (cellsW os)[j]? = some u → (w2.alloc (.cells #[] 40)).cell? (ad.add j) = some u) := fun hne => by
      obtain ⟨b, off, e, _, hc⟩ := (HV.out.later (below_on HB2.out bA)).part (by rintro rfl; exact hne HM.out.symm)
      refine ⟨_, e, fun j u hu => ?_⟩
      have := hc 0 os.length (by omega) j u (by simpa using hu)
      rw [Addr.add_lit]
      simpa using this
    have Ft := hide (fun o => ((bcell bA).2 w.heap.size o hw2).trans (f0 o))
    have d0 := cell_later bA c0
    have d1 := cell_later bA c1
    have HBA := hide (below_on HB2.out bA)
    have HPk : Hid (∀ v' w3, w3.ownsRow w2.heap.size 40 2 v' (0 + m) ([] ++ cellsW os) → (w2.alloc (.cells #[] 40)).grownBy w3 (Value.slice (some ⟨w2.heap.size, 0, none⟩) 0 0).ownBlock →
        ∃ az cz, v' = .slice az m cz ∧ w3.cell? ⟨w.heap.size, 0, none⟩ = some (.int .i64 0) ∧ w3.cell? ⟨w.heap.size, 1, none⟩ = some (.slice none 0 0) ∧ w3.frozen? ⟨w.heap.size, 0, none⟩ = false ∧ w3.frozen? ⟨w.heap.size, 1, none⟩ = false ∧ Below w.heap.size w w3 ∧ OwO w2.heap.size w3 v' os) := by
      intro v' w3 hown hgrow
      have far : ∀ o x, (w2.alloc (.cells #[] 40)).cell? ⟨w.heap.size, o, none⟩ = some x → w3.cell? ⟨w.heap.size, o, none⟩ = some x := fun o x h => (World.cell?_of_block (hgrow.block _ (World.block_lt_of_cell? _ _ h) (fun e => by injection e with e; dsimp only at e; omega))).trans h
      have F := fun o => (hgrow.frozen_far ⟨w.heap.size, o, none⟩ (by simp; omega) (fun e => by injection e with e; dsimp only at e; omega)).trans (Ft.out o)
      have hsh : ∃ az cz, v' = .slice az m cz := by
        rcases hown.2 with ⟨rfl, h0⟩ | ⟨g, cap, cur, rfl, _⟩
        · exact ⟨none, 0, by rw [show m = 0 by omega]⟩
        · exact ⟨_, _, by rw [Nat.zero_add]⟩
      obtain ⟨az, cz, rfl⟩ := hsh
      exact ⟨az, cz, rfl, far _ _ d0, far _ _ d1, F 0, F 1, HBA.out.grown hgrow (by simp; omega) (fun k hk => by injection hk with hk; dsimp only at hk; omega), owO_of_row (by simpa using hown) HM.out (by omega)⟩
    clear hb f0 bA d0 d1 c0 c1
    go_wp2_with (at_builtin; refine wpList_append_any _ rfl _ _ 24 rfl w2.heap.size 40 i0 (.agg #[.int .i64 0, .int .i64 0]) 2 16 Try.underlying24 hi hz0 hz1 hz2 rfl (by decide) (.slice (some ⟨w2.heap.size, 0, none⟩) 0 0) 0 [] rfl (World.ownsRow_made w2 #[] 0 (Nat.le_refl _) (by unfold maxLen; omega) (by simp)) ao m c (cellsW os) rfl (by rw [cellsW_len, HM.out]) HS.out (cellsW_one os) (by unfold maxLen; omega) (by omega) (by simp) ?_; intro v' w3 hown hgrow; obtain ⟨az, cz, rfl, e0, e1, F0, F1, hbf, how⟩ := HPk.out v' w3 hown hgrow; have HBf := hide hbf; have HOf := hide how; clear hown hgrow hbf how)
    have HFi := hide (ret_owns (x := .int .i64 0) HBf.out (Nat.le_refl _) HOf.out hw2)
    refine bodyPost_ret (v := .agg #[.int .i64 0, .slice az m cz]) (by simp [results, Try.results25, go_sem, e0, e1]) rfl ⟨_, rfl, HFi.out.1, HFi.out.2⟩
  · have HN0 : Hid (ownr os a ≠ t) := by rw [Hid, hx]; exact hxt
    have HSt := hide (fun k => @tkF_state os HO.out t a k)
    have HRe := hide (@tkF_rest os HO.out t a ht HN0.out)
    have HPs := hide (plc_snoc os a)
    have HPf := hide (fun k => @plc_full os HO.out a k)
    have HTl : Hid (tkL os t a = os.take (plc os a) ++ (a, t) :: os.drop (plc os a)) := by rw [Hid]; unfold tkL; rw [if_neg HN0.out]
    obtain ⟨Z, hZ⟩ : ∃ Z, tkF (ownr os) t a = Z := ⟨_, rfl⟩
    rw [hZ] at HSt HRe ⊢
    rw [HM.out] at HSt HRe HPs HPf
    rw [hx] at HRe HSt
    clear hx hZ
    obtain ⟨R, hR⟩ : ∃ R, (if Z = 0 then tkL os t a else []) = R := ⟨_, rfl⟩
    have HR := hide hR
    rw [hR]
    clear hR
    have hxb : (x == t) = false := by simpa using hxt
    have hcap : m ≤ c := by
      obtain ⟨_, c', e, _⟩ := HV.out
      injection e with _ _ e3
      rw [HM.out] at e3
      omega
    go_enter Try.func25, Try.ntmps25
    go_wp2_with fail
    refine (l6Owner a (HV.out.later (below_alloc _ _))).mono ?_
    rintro e w2 ⟨he, hb⟩
    rw [HX.out] at he
    subst he
    have HB2 := hide (below_on (below_alloc _ _) hb)
    have HC0 : Hid (w2.cell? ⟨w.heap.size, 0, none⟩ = some (.int .i64 0)) := cell_later hb (by simp [go_sem])
    have HC1 : Hid (w2.cell? ⟨w.heap.size, 1, none⟩ = some (.slice none 0 0)) := cell_later hb (by simp [go_sem])
    have HF0 : Hid (∀ o, w2.frozen? ⟨w.heap.size, o, none⟩ = false) := fun o => ((bcell hb).2 _ _ (by simp)).trans (by simp [go_sem])
    have hw2 : w.heap.size < w2.heap.size := World.block_lt_of_cell? _ _ HC0.out
    have HV2 := hide (HV.out.later HB2.out)
    clear hb
    go_wp2
    go_loopw [8, 9] (fun pl i wr => ∃ k p : Nat, k ≤ m ∧ i = .int .i64 k ∧ pl = .int .i64 p ∧ p ≤ k ∧ Hid (p = plc (os.take k) a) ∧ Hid (∀ i, i < k → ¬ ((os.getD i wn0).2 = t ∧ a < (os.getD i wn0).1)) ∧ wr = w2) (fun _ i _ => m - (RowKit.intOf i).toNat)
    case atStart => exact ⟨0, 0, Nat.zero_le _, rfl, rfl, Nat.le_refl _, by simp [Hid, plc], fun i hi => absurd hi (Nat.not_lt_zero _), rfl⟩
    case round =>
      obtain ⟨k, p, hk, rfl, rfl, hpk, HP, HNo, hwr⟩ := hrel
      subst hwr
      by_cases hlt : k < m
      · obtain ⟨b, off, rfl, g1, g2⟩ := HV2.out.at (k := k) (by rw [HM.out]; exact hlt)
        have HPk := hide (HPs.out k hlt)
        have HPfk := hide (HPf.out k hlt)
        have HStk := hide (HSt.out k hlt hxt)
        obtain ⟨xx, hxx⟩ : ∃ xx, (os.getD k wn0).1 = xx := ⟨_, rfl⟩
        obtain ⟨y, hy⟩ : ∃ y, (os.getD k wn0).2 = y := ⟨_, rfl⟩
        have HXX := hide hxx
        have HYY := hide hy
        rw [hxx] at g1 HPk HPfk HStk
        rw [hy] at g2 HStk
        clear hxx hy
        have hwk : IntKind.i64.wrap ((k : Int) + 1) = (k : Int) + 1 := by simp [IntKind.wrap, IntKind.bits, IntKind.signed]; omega
        by_cases hst : y = t ∧ a < xx
        · obtain ⟨h1, h2⟩ := hst
          have hZ := HStk.out h1 h2
          subst hZ
          subst h1
          have hR := HR.out
          rw [if_neg (by decide)] at hR
          subst hR
          have c0 := HC0.out
          have c1 := HC1.out
          have F0 := HF0.out 0
          have F1 := HF0.out 1
          go_wp2
          refine bodyPost_ret (v := .agg #[.int .i64 10, .slice none 0 0]) (by simp [results, Try.results25, go_sem, c0, c1]) rfl ⟨_, rfl, ?_, OwO_nil _ _⟩
          exact (HB2.out.setCell (Nat.le_refl _) _).setCell (Nat.le_refl _) _
        · have HNo' : Hid (∀ i, i < k + 1 → ¬ ((os.getD i wn0).2 = t ∧ a < (os.getD i wn0).1)) := fun i hi => by
            by_cases e : i = k
            · rw [e, HXX.out, HYY.out]; exact hst
            · exact HNo.out i (by omega)
          by_cases hxa : xx < a
          · have hpf := HPfk.out hxa
            have HP' : Hid (k + 1 = plc (os.take (k + 1)) a) := by rw [Hid, HPk.out, if_pos hxa, hpf]
            have hna : ¬ a < xx := by omega
            clear hpf
            by_cases hyt : y = t
            · subst hyt
              go_wp2
              go_roundw
              case rel => exact ⟨k + 1, k + 1, by omega, by go_num, by go_num, Nat.le_refl _, HP'.out, HNo'.out, by trivial⟩
              case measure => simp [RowKit.intOf]; omega
            · have hyb : (y == t) = false := by simpa using hyt
              go_wp2
              go_roundw
              case rel => exact ⟨k + 1, k + 1, by omega, by go_num, by go_num, Nat.le_refl _, HP'.out, HNo'.out, by trivial⟩
              case measure => simp [RowKit.intOf]; omega
          · have HP' : Hid (p = plc (os.take (k + 1)) a) := by rw [Hid, HPk.out, if_neg hxa]; exact HP.out
            by_cases hyt : y = t
            · subst hyt
              have hna : ¬ a < xx := fun h => hst ⟨rfl, h⟩
              go_wp2
              go_roundw
              case rel => exact ⟨k + 1, p, by omega, by go_num, rfl, by omega, HP'.out, HNo'.out, by trivial⟩
              case measure => simp [RowKit.intOf]; omega
            · have hyb : (y == t) = false := by simpa using hyt
              go_wp2
              go_roundw
              case rel => exact ⟨k + 1, p, by omega, by go_num, rfl, by omega, HP'.out, HNo'.out, by trivial⟩
              case measure => simp [RowKit.intOf]; omega
      · have hkm : k = m := by omega
        subst hkm
        have hfin : os.take k = os := by rw [← HM.out]; simp
        rw [hfin] at HP
        have hZ := HRe.out HNo.out
        by_cases hx0 : x = 0
        · rw [if_pos hx0] at hZ
          subst hZ
          subst hx0
          have hR := HR.out
          rw [if_pos rfl, HTl.out, ← HP.out] at hR
          have HR2 := hide hR
          clear hR
          have bA := below_alloc wr (.cells #[] 40)
          have d0 := cell_later bA HC0.out
          have d1 := cell_later bA HC1.out
          have Ft := hide (fun o => ((bcell bA).2 w.heap.size o hw2).trans (HF0.out o))
          have HBA := hide (below_on HB2.out bA)
          have hp0 : (0 : Int) ≤ (p : Int) := Int.natCast_nonneg _
          have hpc : (p : Int) ≤ (c : Int) := by omega
          have hpm : (p : Int) ≤ (k : Int) := by omega
          have HSrc : Hid (∀ W, Below w.heap.size w W → ∀ q r, q + r ≤ k → r ≠ 0 → ∃ b off, ao = some ⟨b, off, none⟩ ∧ b < w.heap.size ∧ ∀ j u, (cellsW ((os.drop q).take r))[j]? = some u → W.cell? ⟨b, off + q * 2 + j, none⟩ = some u) := by
            intro W hW q r hq hr
            obtain ⟨b, off, e, hbl, hc⟩ := HV.out.part (by rintro rfl; have := HM.out; simp at this; omega)
            exact ⟨b, off, e, hbl, fun j u hu => cell_later hW (hc q r (by rw [HM.out]; exact hq) j u hu)⟩
          have HS : Hid (p ≠ 0 → ∃ ad, ao = some ad ∧ ∀ j u, (cellsW (os.take p))[j]? = some u → (wr.alloc (.cells #[] 40)).cell? (ad.add j) = some u) := fun hne => by
            obtain ⟨b, off, e, _, hc⟩ := HSrc.out _ HBA.out 0 p (by omega) hne
            refine ⟨_, e, fun j u hu => ?_⟩
            have := hc j u (by simpa using hu)
            rw [Addr.add_lit]
            simpa using this
          have HPk : Hid (∀ v' w3, w3.ownsRow wr.heap.size 40 2 v' (0 + p) ([] ++ cellsW (os.take p)) → (wr.alloc (.cells #[] 40)).grownBy w3 (Value.slice (some ⟨wr.heap.size, 0, none⟩) 0 0).ownBlock →
              ∃ az cz, v' = .slice az p cz ∧ w3.cell? ⟨w.heap.size, 0, none⟩ = some (.int .i64 0) ∧ w3.cell? ⟨w.heap.size, 1, none⟩ = some (.slice none 0 0) ∧ (∀ o, w3.frozen? ⟨w.heap.size, o, none⟩ = false) ∧ Below w.heap.size w w3 ∧ w3.ownsRow wr.heap.size 40 2 v' p (cellsW (os.take p)) ∧ wr.heap.size < w3.heap.size) := by
            intro v' w3 hown hgrow
            have far : ∀ o x, (wr.alloc (.cells #[] 40)).cell? ⟨w.heap.size, o, none⟩ = some x → w3.cell? ⟨w.heap.size, o, none⟩ = some x := fun o x h => (World.cell?_of_block (hgrow.block _ (World.block_lt_of_cell? _ _ h) (fun e => by injection e with e; dsimp only at e; omega))).trans h
            have F := fun o => (hgrow.frozen_far ⟨w.heap.size, o, none⟩ (by simp; omega) (fun e => by injection e with e; dsimp only at e; omega)).trans (Ft.out o)
            have hsh : ∃ az cz, v' = .slice az p cz := by
              rcases hown.2 with ⟨rfl, h0⟩ | ⟨g, cap, cur, rfl, _⟩
              · exact ⟨none, 0, by rw [show p = 0 by omega]⟩
              · exact ⟨_, _, by rw [Nat.zero_add]⟩
            obtain ⟨az, cz, rfl⟩ := hsh
            exact ⟨az, cz, rfl, far _ _ d0, far _ _ d1, F, HBA.out.grown hgrow (by simp; omega) (fun k hk => by injection hk with hk; dsimp only at hk; omega), by simpa using hown, by have := hgrow.size; simp at this; omega⟩
          clear bA d0 d1
          go_wp2_with (at_builtin; refine wpList_append_any _ rfl _ _ 24 rfl wr.heap.size 40 i0 (.agg #[.int .i64 0, .int .i64 0]) 2 16 Try.underlying24 hi hz0 hz1 hz2 rfl (by decide) (.slice (some ⟨wr.heap.size, 0, none⟩) 0 0) 0 [] rfl (World.ownsRow_made wr #[] 0 (Nat.le_refl _) (by unfold maxLen; omega) (by simp)) ao p c (cellsW (os.take p)) rfl (by rw [cellsW_len, List.length_take, HM.out, Nat.min_eq_left (by omega)]) HS.out (cellsW_one _) (by unfold maxLen; omega) (by omega) (by simp) ?_; intro v' w3 hown hgrow; obtain ⟨az, cz, rfl, e0, e1, F, hbf, how, hw3⟩ := HPk.out v' w3 hown hgrow; have HBf := hide hbf; have HRow3 := hide how; have HF3 := hide F; clear hown hgrow hbf how F)
          obtain ⟨A, hA⟩ : ∃ A, (if c = p then ao else Option.map (fun x => x.add (p * 2)) ao) = A := ⟨_, rfl⟩
          have HAd : Hid (k - p ≠ 0 → ∀ b off, ao = some ⟨b, off, none⟩ → A = some ⟨b, off + p * 2, none⟩) := by
            intro hne b off e
            rw [← hA, if_neg (by omega), e]
            simp [Addr.add_lit]
          have HRow3d : Hid (w3.drew.ownsRow wr.heap.size 40 2 (.slice az p cz) p (cellsW (os.take p))) := HRow3.out
          have HP1 : Hid (∀ g cap w6, w6.ownsRow wr.heap.size 40 2 (.slice (some ⟨g, 0, none⟩) (p + 1) cap) (p + 1) (cellsW (os.take p) ++ [.int .i64 a, .int .i64 t]) → (w3.drew.alloc (.cells #[.int .i64 a, .int .i64 t] 40)).grownBy w6 (Value.slice az p cz).ownBlock →
              (∀ o x, w3.cell? ⟨w.heap.size, o, none⟩ = some x → w6.cell? ⟨w.heap.size, o, none⟩ = some x) ∧ (∀ o, w6.frozen? ⟨w.heap.size, o, none⟩ = false) ∧ Below w.heap.size w w6 ∧ w3.heap.size ≤ w6.heap.size ∧
                (k - p ≠ 0 → ∃ ad, A = some ad ∧ ∀ j u, (cellsW (os.drop p))[j]? = some u → w6.cell? (ad.add j) = some u)) := by
            intro g cap w6 hown hgrow
            have hlo : ∀ b, (Value.slice az p cz).ownBlock = some b → wr.heap.size ≤ b := fun b e => (HRow3.out.lt b e).1
            have bB := below_on (below_drewN w3 1) (below_alloc (w3.drewN 1) (.cells #[.int .i64 a, .int .i64 t] 40))
            have hb6 : Below w.heap.size w w6 := (below_on HBf.out bB).grown hgrow (by have := HBf.out.size; simp; omega) (fun r hr => by have := hlo r hr; omega)
            refine ⟨fun o x hx => ?_, fun o => ?_, hb6, Nat.le_trans (by simp) hgrow.size, fun hne => ?_⟩
            · have h1 := cell_later bB hx
              exact (World.cell?_of_block (hgrow.block _ (World.block_lt_of_cell? _ _ h1) (fun e => by have h2 := hlo w.heap.size e.symm; omega))).trans h1
            · exact (hgrow.frozen_far ⟨w.heap.size, o, none⟩ (by simp; omega) (fun e => by have h2 := hlo w.heap.size e.symm; omega)).trans (((bcell bB).2 _ _ (by omega)).trans (HF3.out o))
            · obtain ⟨b, off, e, _, hc⟩ := HSrc.out w6 hb6 p (k - p) (by omega) hne
              refine ⟨_, HAd.out hne b off e, fun j u hu => ?_⟩
              rw [Addr.add_lit]
              refine hc j u ?_
              rw [List.take_of_length_le (by simp [HM.out])]
              exact hu
          have HP2 : Hid (∀ g cap w6 v' w7, w6.ownsRow wr.heap.size 40 2 (.slice (some ⟨g, 0, none⟩) (p + 1) cap) (p + 1) (cellsW (os.take p) ++ [.int .i64 a, .int .i64 t]) → (∀ o x, w3.cell? ⟨w.heap.size, o, none⟩ = some x → w6.cell? ⟨w.heap.size, o, none⟩ = some x) → (∀ o, w6.frozen? ⟨w.heap.size, o, none⟩ = false) → Below w.heap.size w w6 → w3.heap.size ≤ w6.heap.size →
              w7.ownsRow wr.heap.size 40 2 v' (p + 1 + (k - p)) ((cellsW (os.take p) ++ [.int .i64 a, .int .i64 t]) ++ cellsW (os.drop p)) → w6.grownBy w7 (Value.slice (some ⟨g, 0, none⟩) (p + 1) cap).ownBlock →
              ∃ av cv, v' = .slice av (p + 1 + (k - p)) cv ∧ w7.cell? ⟨w.heap.size, 0, none⟩ = some (.int .i64 0) ∧ w7.cell? ⟨w.heap.size, 1, none⟩ = some (.slice none 0 0) ∧ w7.frozen? ⟨w.heap.size, 0, none⟩ = false ∧ w7.frozen? ⟨w.heap.size, 1, none⟩ = false ∧ Below w.heap.size w w7 ∧ OwO wr.heap.size w7 v' R) := by
            intro g cap w6 v' w7 hown hc6 hf6 hb6 hz6 hown7 hgrow7
            have hlo : ∀ b, (Value.slice (some ⟨g, 0, none⟩) (p + 1) cap).ownBlock = some b → wr.heap.size ≤ b := fun b e => (hown.lt b e).1
            have hsh : ∃ av cv, v' = .slice av (p + 1 + (k - p)) cv := by
              rcases hown7.2 with ⟨rfl, h0⟩ | ⟨g, cap, cur, rfl, _⟩
              · omega
              · exact ⟨_, _, rfl⟩
            obtain ⟨av, cv, rfl⟩ := hsh
            have far : ∀ o x, w6.cell? ⟨w.heap.size, o, none⟩ = some x → w7.cell? ⟨w.heap.size, o, none⟩ = some x := fun o x hx => (World.cell?_of_block (hgrow7.block _ (World.block_lt_of_cell? _ _ hx) (fun e => by have h2 := hlo w.heap.size e.symm; omega))).trans hx
            have F := fun o => (hgrow7.frozen_far ⟨w.heap.size, o, none⟩ (by dsimp only; omega) (fun e => by have h2 := hlo w.heap.size e.symm; omega)).trans (hf6 o)
            refine ⟨av, cv, rfl, far _ _ (hc6 _ _ e0), far _ _ (hc6 _ _ e1), F 0, F 1, hb6.grown hgrow7 (by have := hb6.size; omega) (fun r hr => by have := hlo r hr; omega), ?_⟩
            have eR : (cellsW (os.take p) ++ [.int .i64 a, .int .i64 t]) ++ cellsW (os.drop p) = cellsW R := by
              rw [← HR2.out, cellsW_append, show (a, t) :: os.drop p = [(a, t)] ++ os.drop p from rfl, cellsW_append]
              simp [cellsW]
            rw [eR] at hown7
            refine owO_of_row hown7 ?_ (by omega)
            rw [← HR2.out]
            simp [HM.out]
            omega
          clear HRow3 e0 e1
          go_region_law (first
            | (refine step_append_any _ (by rfl) _ _ _ (by rfl) wr.heap.size 40 i0 (.agg #[.int .i64 0, .int .i64 0]) 2 16 Try.underlying24 hi hz0 hz1 hz2 rfl (by omega) (.slice (some ⟨g, 0, none⟩) (p + 1) cap) (p + 1) _ (by rfl) hown A (k - p) (c - p) (cellsW (os.drop p)) (by rfl) (by rw [cellsW_len, List.length_drop, HM.out]) hsrc (cellsW_one _) (by unfold maxLen; omega) (by omega) (by omega) ?_; intro v' w7 hown7 hgrow7; obtain ⟨av, cv, rfl, y0, y1, yf0, yf1, hbf, how⟩ := HP2.out g cap w6 v' w7 hown hc6 hf6 hb6 hz6 hown7 hgrow7; have HBg := hide hbf; have HOg := hide how; clear hown hc6 hf6 hb6 hz6 hown7 hgrow7 hbf how hsrc)
            | (refine step_append_lies _ (by rfl) _ _ _ (by rfl) wr.heap.size 40 i0 (.agg #[.int .i64 0, .int .i64 0]) 2 16 Try.underlying24 hi hz0 hz1 hz2 rfl (by omega) (.slice az p cz) p _ (by rfl) (HRow3d.out.alloc (.cells #[.int .i64 a, .int .i64 t] 40)) ⟨w3.heap.size, 0, none⟩ 1 1 [.int .i64 a, .int .i64 t] (by rfl) (by rfl) (World.news_of_block (cs := #[.int .i64 a, .int .i64 t]) (t := 40) (fr := (0, 0)) (heap_alloc_new w3.drew _)) (by simp [Value.oneCell']) (by omega) (by unfold maxLen; omega) (by omega) (by simp; omega) (w3.heap.size + 1) (by simp) ?_; intro g cap w6 hown hgrow hat hlt3; obtain ⟨hc6, hf6, hb6, hz6, hsrc⟩ := HP1.out g cap w6 hown hgrow; clear hgrow hat hlt3))
          all_goals
            have HFi := hide (ret_owns (x := .int .i64 0) HBg.out (Nat.le_refl _) HOg.out hw2)
            go_wp2
            refine bodyPost_ret (v := .agg #[.int .i64 0, .slice av (p + 1 + (k - p)) cv]) (by simp [results, Try.results25, go_sem, y0, y1]) rfl ⟨_, rfl, HFi.out.1, HFi.out.2⟩
        · rw [if_neg hx0] at hZ
          subst hZ
          have hR := HR.out
          rw [if_neg (by decide)] at hR
          subst hR
          have c0 := HC0.out
          have c1 := HC1.out
          have F0 := HF0.out 0
          have F1 := HF0.out 1
          go_wp2
          refine bodyPost_ret (v := .agg #[.int .i64 9, .slice none 0 0]) (by simp [results, Try.results25, go_sem, c0, c1]) rfl ⟨_, rfl, ?_, OwO_nil _ _⟩
          exact (HB2.out.setCell (Nat.le_refl _) _).setCell (Nat.le_refl _) _
end Go.Proofs.Ytkpkoapcmnapoab
