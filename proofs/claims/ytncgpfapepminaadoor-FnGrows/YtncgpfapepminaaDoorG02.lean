/- Copy Draw Fault in one text: what each says stands at its head below. -/
import Derived.Test.YtncgpfapepminaaDoorG01
/- Slices of numbers that the program and the model make by append: copies. -/
namespace Go.Proofs.YtncgpfapepminaaDoor
open Go.RowKit

/-- v reads as xs in one block from B on, in which nothing is frozen (where there is a number at all). -/
def OwI (B : Nat) (w : World) (v : Value) (xs : List Int) : Prop :=
  ∃ b, RdI (· = b) w v xs ∧ (xs ≠ [] → B ≤ b ∧ b < w.heap.size ∧ ∀ o, w.frozen? ⟨b, o, none⟩ = false)

theorem OwI.rd {B : Nat} {w : World} {v : Value} {xs : List Int} (h : OwI B w v xs) : RdI (fun b => B ≤ b ∧ b < w.heap.size) w v xs := by
  obtain ⟨b, h1, h2⟩ := h
  exact h1.narrow fun hne x hx => hx ▸ ⟨(h2 hne).1, (h2 hne).2.1⟩
theorem OwI.shape {B : Nat} {w : World} {v : Value} {xs : List Int} (h : OwI B w v xs) : ∃ ao c, v = .slice ao xs.length c := by
  obtain ⟨b, ⟨ao, c, h1, _⟩, _⟩ := h
  exact ⟨ao, _, h1⟩
theorem OwI.mono {B B' : Nat} {w : World} {v : Value} {xs : List Int} (h : OwI B w v xs) (hB : B' ≤ B) : OwI B' w v xs := by
  obtain ⟨b, h1, h2⟩ := h
  exact ⟨b, h1, fun hne => ⟨Nat.le_trans hB (h2 hne).1, (h2 hne).2⟩⟩
theorem OwI.wr {B : Nat} {T : Nat → Prop} {w w' : World} {v : Value} {xs : List Int} (h : OwI B w v xs) (hw : Wr T w w') (hd : ∀ b, B ≤ b → b < w.heap.size → ¬ T b) : OwI B w' v xs := by
  obtain ⟨b, h1, h2⟩ := h
  refine ⟨b, h1.wr hw (fun hne x hx => by subst hx; exact hd _ (h2 hne).1 (h2 hne).2.1), fun hne => ?_⟩
  obtain ⟨k1, k2, k3⟩ := h2 hne
  exact ⟨k1, Nat.lt_of_lt_of_le k2 hw.size, fun o => by rw [hw.frz _ _ k2]; exact k3 o⟩
theorem OwI.later {B : Nat} {w w' : World} {v : Value} {xs : List Int} (h : OwI B w v xs) (hb : Below w.heap.size w w') : OwI B w' v xs :=
  h.wr (Wr.of_below hb fun _ => False) fun _ _ _ => id
theorem OwI_nil (B : Nat) (w : World) : OwI B w (.slice none 0 0) [] := ⟨0, ⟨none, 0, by simp, by simp, fun h => absurd rfl h⟩, fun h => absurd rfl h⟩

theorem run_append_zero {P : Program} (w : World) (t ty e : TypeId) (i : TypeInfo) (ht : P.underlying t = some (.slice e)) (hi : P.info? e = some i) (a : Option Addr) (n cap : Nat) (hn : n ≤ cap) (ao : Option Addr) (c : Nat) :
    (Builtin.append_ #[t, t] ty #[.slice a n cap, .slice ao 0 c]).run P w = .ok (.slice a n cap) w := by
  cases a <;> cases ao <;> simp [Builtin.append_, run_underlying ht, sizeOf, typeInfo, hi, Builtin.lenOf, Builtin.firstCells, hn, storeCells, loadCells, loadCellsFrom]

/-- An append onto what the call itself has made, of a slice of whatever address where it holds nothing. -/
theorem wpList_append_any {P : Program} (w : World) {ops : Array Oper} {rest : List Oper} {o : Oper} {a : Act} {Q : Exit → Act → World → Prop} (hgd : o.guard = none) (s x : Operand) (t : TypeId)
    (ho : o.op = .call { callee := .builtin .append, args := #[s, x], argTypes := #[t, t] })
    (base : Nat) (e : TypeId) (i : TypeInfo) (z : Value) (size bytes : Nat) (ht : P.underlying t = some (.slice e)) (hi : P.info? e = some i) (hz : i.zero = some z)
    (hsize : i.size = size) (hby : i.bytes = bytes) (hzs : z.cells.size = size) (hsz : 0 < size)
    (v : Value) (n : Nat) (xs : List Value) (hs : a.eval s = v) (hown : w.ownsRow base e size v n xs)
    (ao : Option Addr) (m c : Nat) (news : List Value) (hx : a.eval x = .slice ao m c) (hl : news.length = m * size)
    (hnews : m ≠ 0 → ∃ ad, ao = some ad ∧ ∀ j u, news[j]? = some u → w.cell? (ad.add j) = some u) (h1 : ∀ u ∈ news, u.oneCell' = true)
    (h63 : n + m ≤ maxLen) (hbytes : (n + m) * bytes ≤ 140737488355328) (hbase : base ≤ w.heap.size)
    (h : ∀ v' w', w'.ownsRow base e size v' (n + m) (xs ++ news) → w.grownBy w' v.ownBlock → wpList P ops Q rest (a.put o.dst v') w') : wpList P ops Q (o :: rest) a w := by
  by_cases hm : m = 0
  · subst hm
    have hn : news = [] := List.eq_nil_of_length_eq_zero (by simpa using hl)
    subst hn
    refine wpList_plain hgd fun K hK => ?_
    have hv : ∃ ad k, v = .slice ad n k ∧ n ≤ k := by
      rcases hown.2 with ⟨rfl, rfl⟩ | ⟨g, cap, cur, rfl, _, _, hnc, _⟩
      · exact ⟨_, _, rfl, Nat.le_refl _⟩
      · exact ⟨_, _, rfl, hnc⟩
    obtain ⟨ad, k, rfl, hk⟩ := hv
    have hrun := run_append_zero (P := P) w t o.type e i ht hi ad n k hk ao c
    unfold Oper.wp
    simp [execOp, ho, resolve, invoke, builtin, hs, hx, hrun, Result.andThen]
    exact hK _ _ (h _ w (by simpa using hown) (World.grownBy.refl _ _))
  · obtain ⟨ad, rfl, hc⟩ := hnews hm
    exact wpList_append_own (P := P) w hgd s x t ho base e i z size bytes ht hi hz hsize hby hzs hsz v n xs hs hown ad m c news hx hl hc h1 h63 hbytes hbase (fun v' w' k1 k2 _ => h v' w' k1 k2)

/-- What append has built of numbers. -/
theorem ow_of_owns {w : World} {B t : Nat} {v : Value} {n : Nat} {xs : List Int} (hn : xs.length = n) (h : w.ownsRow B t 1 v n (xs.map (Value.int .i64))) (hm : xs.length ≤ 9223372036854775807) : OwI B w v xs := by
  subst hn
  rcases h.2 with ⟨rfl, e⟩ | ⟨g, cap, cur, rfl, hg, hh, hnc, _⟩
  · have : xs = [] := List.eq_nil_of_length_eq_zero e
    subst this
    exact OwI_nil _ _
  · refine ⟨g, ⟨_, cap - xs.length, by rw [Nat.add_sub_cancel' hnc], hm, fun _ => ⟨g, 0, rfl, rfl, fun i hi => ?_⟩⟩, fun _ => ⟨hg, (Array.getElem?_eq_some_iff.1 hh).1, fun o => h.frozenAt o⟩⟩
    rw [Nat.zero_add, h.cellAt i (by simpa using hi)]
    simp [List.getD, hi]

/-- What the append of a whole reading asks of its source. -/
theorem RdI.src {S : Nat → Prop} {w : World} {v : Value} {xs : List Int} (h : RdI S w v xs) :
    ∃ ao c, v = .slice ao xs.length c ∧ (xs.length ≠ 0 → ∃ ad, ao = some ad ∧ ∀ j u, (xs.map (Value.int .i64))[j]? = some u → w.cell? (ad.add j) = some u) := by
  obtain ⟨ao, c, h1, h2, h3⟩ := h
  refine ⟨ao, _, h1, fun hne => ?_⟩
  obtain ⟨b, off, e, _, hc⟩ := h3 (fun e => hne (by rw [e]; rfl))
  refine ⟨_, e, fun j u hu => ?_⟩
  have hj : j < xs.length := by
    have := (List.getElem?_eq_some_iff.1 hu).1
    simpa using this
  rw [Addr.add_lit, hc j hj]
  simp [hj] at hu
  simp [List.getD, hj, hu]

/-- 'impl.copyWords' of a reading. -/
theorem copyWords {S : Nat → Prop} {w : World} {v : Value} {xs : List Int} (hv : RdI S w v xs) (hm : xs.length ≤ 1048576) :
    Calls Tryd.prog 70 #[v] w fun e w' => ∃ u, e = .returned u ∧ Below w.heap.size w w' ∧ OwI w.heap.size w' u xs := by
  obtain ⟨ao, c, rfl, hsrc⟩ := hv.src
  obtain ⟨i0, hi, hz0, hz1, hz2⟩ := info_parts Tryd.infoInt
  have HS := hide hsrc
  clear hsrc hv
  go_enter Tryd.func70, Tryd.ntmps70
  go_wp2_with (at_builtin; refine wpList_append_any _ rfl _ _ 24 rfl w.heap.size 2 i0 (.int .i64 0) 1 8 Tryd.underlying24 hi hz0 hz1 hz2 rfl (by decide) _ _ _ rfl (World.ownsRow_nil _ _ _ _) ao xs.length c (xs.map (Value.int .i64)) rfl (by simp) HS.out (ints_oneCell _ _) (by unfold maxLen; omega) (by omega) (Nat.le_refl _) ?_)
  intro v' w1 hown hgrow
  have HO := hide hown
  have HG := hide hgrow
  clear hown hgrow
  go_wp2
  go_ret
  refine ⟨v', rfl, (Below.refl _ _).grown HG.out (Nat.le_refl _) (fun k hk => by cases hk), ow_of_owns rfl HO.out (by omega)⟩

/-- 'spec.l1Ints' of a reading: the row that it has built. -/
theorem l1IntsOwn {S : Nat → Prop} {w : World} {v : Value} {xs : List Int} (hv : RdI S w v xs) (hm : xs.length ≤ 1048576) :
    Calls Tryd.prog 63 #[v] w fun e w' => ∃ u, e = .returned u ∧ Below w.heap.size w w' ∧ w'.ownsRow w.heap.size 2 1 u xs.length (xs.map (Value.int .i64)) := by
  obtain ⟨ao, c, rfl, hsrc⟩ := hv.src
  obtain ⟨i0, hi, hz0, hz1, hz2⟩ := info_parts Tryd.infoInt
  have HS : Hid (xs.length ≠ 0 → ∃ ad, ao = some ad ∧ ∀ j u, (xs.map (Value.int .i64))[j]? = some u → (w.alloc (.cells #[] 2)).cell? (ad.add j) = some u) := fun hne => by
    obtain ⟨ad, e, hc⟩ := hsrc hne
    exact ⟨ad, e, fun j u hu => cell_later (below_alloc _ _) (hc j u hu)⟩
  clear hsrc hv
  go_enter Tryd.func63, Tryd.ntmps63
  go_wp2_with (at_builtin; refine wpList_append_any _ rfl _ _ 24 rfl w.heap.size 2 i0 (.int .i64 0) 1 8 Tryd.underlying24 hi hz0 hz1 hz2 rfl (by decide) _ 0 [] rfl (World.ownsRow_made w #[] 0 (Nat.le_refl _) (by unfold maxLen; omega) (by simp)) ao xs.length c (xs.map (Value.int .i64)) rfl (by simp) HS.out (ints_oneCell _ _) (by unfold maxLen; omega) (by omega) (by simp) ?_)
  intro v' w1 hown hgrow
  have HO := hide hown
  have HG := hide hgrow
  clear hown hgrow
  go_wp2
  go_ret
  exact ⟨v', rfl, (below_alloc _ _).grown HG.out (by simp) (fun k hk => by simp [Value.ownBlock] at hk; omega), HO.out⟩
/-- 'spec.l1Ints' of a reading. -/
theorem l1Ints {S : Nat → Prop} {w : World} {v : Value} {xs : List Int} (hv : RdI S w v xs) (hm : xs.length ≤ 1048576) :
    Calls Tryd.prog 63 #[v] w fun e w' => ∃ u, e = .returned u ∧ Below w.heap.size w w' ∧ OwI w.heap.size w' u xs :=
  (l1IntsOwn hv hm).mono fun e w' ⟨u, he, hb, ho⟩ => ⟨u, he, hb, ow_of_owns rfl ho (by omega)⟩
end Go.Proofs.YtncgpfapepminaaDoor
/- The model's draws: 'spec.l1Next', 'spec.l1Pick', 'spec.l1Source', walked: what they answer is some number in its bounds. -/
namespace Go.Proofs.YtncgpfapepminaaDoor
open Go.RowKit

/-- The slice value v reads as the bytes bs; none of them in block s. -/
def RdB (s : Nat) (w : World) (v : Value) (bs : List Nat) : Prop :=
  ∃ (ao : Option Addr) (c : Nat), v = .slice ao bs.length c ∧ bs.length ≤ 2097152 ∧
    (bs ≠ [] → ∃ b off, ao = some ⟨b, off, none⟩ ∧ b ≠ s ∧ ∀ i, i < bs.length → w.cell? ⟨b, off + i, none⟩ = some (.int .u8 ((bs.getD i 0 : Nat) : Int)) ∧ bs.getD i 0 ≤ 255)

/-- A source of draws in block s; t numbers have been drawn. -/
structure Src (s : Nat) (v : Value) (bs : List Nat) (w : World) (t : Nat) : Prop where
  code : w.cell? ⟨s, 0, none⟩ = some v
  at_ : w.cell? ⟨s, 1, none⟩ = some (.int .i64 (t : Int))
  free : ∀ o, w.frozen? ⟨s, o, none⟩ = false
  rd : RdB s w v bs

theorem RdB.wr {s : Nat} {w w' : World} {v : Value} {bs : List Nat} (h : RdB s w v bs) (hw : Wr (· = s) w w') : RdB s w' v bs := by
  obtain ⟨ao, c, e1, e2, e3⟩ := h
  refine ⟨ao, c, e1, e2, fun hne => ?_⟩
  obtain ⟨b, off, f1, f2, f3⟩ := e3 hne
  exact ⟨b, off, f1, f2, fun i hi => ⟨cell_wr hw (f3 i hi).1 f2, (f3 i hi).2⟩⟩

theorem Src.set {s : Nat} {v : Value} {bs : List Nat} {w : World} {t : Nat} (h : Src s v bs w t) : Src s v bs (w.setCell ⟨s, 1, none⟩ (.int .i64 ((t : Int) + 1))) (t + 1) := by
  refine ⟨?_, ?_, fun o => by rw [World.frozen?_setCell]; exact h.free o, h.rd.wr ((Wr.refl (· = s) w).setCell (p := ⟨s, 1, none⟩) rfl _)⟩
  · rw [World.cell?_setCell_other _ _ _ _ (by simp)]; exact h.code
  · rw [World.cell?_setCell_same _ _ _ h.at_]; simp

theorem Src.drewN {s : Nat} {v : Value} {bs : List Nat} {w : World} {t : Nat} (h : Src s v bs w t) (q : Nat) : Src s v bs (w.drewN q) t := ⟨h.code, h.at_, h.free, h.rd⟩
theorem Src.lt {s : Nat} {v : Value} {bs : List Nat} {w : World} {t : Nat} (h : Src s v bs w t) : s < w.heap.size := World.block_lt_of_cell? _ _ h.code
theorem Src.later {s : Nat} {v : Value} {bs : List Nat} {w w' : World} {t : Nat} (h : Src s v bs w t) (hb : Below w.heap.size w w') : Src s v bs w' t := by
  refine ⟨cell_later hb h.code, cell_later hb h.at_, fun o => ((bcell hb).2 _ _ h.lt).trans (h.free o), ?_⟩
  obtain ⟨ao, c, e1, e2, e3⟩ := h.rd
  refine ⟨ao, c, e1, e2, fun hne => ?_⟩
  obtain ⟨b, off, f1, f2, f3⟩ := e3 hne
  exact ⟨b, off, f1, f2, fun i hi => ⟨cell_later hb (f3 i hi).1, (f3 i hi).2⟩⟩

/-- What a draw leaves. -/
def Drawn (N s : Nat) (v : Value) (bs : List Nat) (t t' : Nat) (w w' : World) : Prop := Src s v bs w' t' ∧ Wr (· = s) w w' ∧ t' ≤ t + N

theorem drawn_one {s : Nat} {v : Value} {bs : List Nat} {w : World} {t : Nat} (h : Src s v bs w t) (q : Nat) : Drawn 1 s v bs t (t + 1) w ((w.setCell ⟨s, 1, none⟩ (.int .i64 ((t : Int) + 1))).drewN q) :=
  ⟨h.set.drewN q, ((Wr.refl (· = s) w).setCell (p := ⟨s, 1, none⟩) rfl _).drewN q, Nat.le_refl _⟩

set_option maxHeartbeats 2000000 in
set_option maxRecDepth 4000 in
/-- 'l1Next': some number below n. -/
theorem l1Next {s : Nat} {v : Value} {bs : List Nat} {w : World} {t : Nat} (n : Int) (hS : Src s v bs w t) (ht : t ≤ 1073741824) (hn : n ≤ 1073741824) (hn1 : -1073741824 ≤ n) :
    Calls Tryd.prog 26 #[.pointer (some ⟨s, 0, none⟩), .int .i64 n] w fun e w' => ∃ r : Int, e = .returned (.int .i64 r) ∧ 0 ≤ r ∧ (1 ≤ n → r < n) ∧ ∃ t', Drawn 1 s v bs t t' w w' := by
  have HS := hide hS
  have c1 := hS.at_
  have c0 := hS.code
  have f1 := hS.free 1
  obtain ⟨ao, c, rfl, hk, hrd⟩ := hS.rd
  have HR := hide hrd
  clear hrd hS
  obtain ⟨k, hk'⟩ : ∃ k, bs.length = k := ⟨_, rfl⟩
  have HK := hide hk'
  rw [hk'] at hk c0 HS ⊢
  clear hk'
  by_cases hlt : n < 1
  · go_enter Tryd.func26, Tryd.ntmps26
    go_wp2
    go_ret
    exact ⟨0, rfl, by omega, fun h => by omega, t + 1, drawn_one HS.out 0⟩
  · have hn0 : ¬ n = 0 := by omega
    by_cases hk0 : k = 0
    · subst hk0
      go_enter Tryd.func26, Tryd.ntmps26
      go_wp2
      go_ret
      exact ⟨_, rfl, Int.emod_nonneg _ hn0, Int.emod_lt_of_pos _ (by omega), t + 1, drawn_one HS.out 0⟩
    · obtain ⟨b, off, rfl, hbs, hc⟩ := HR.out (by rintro rfl; exact hk0 (by rw [← HK.out]; rfl))
      have hkz : ¬ (k : Int) = 0 := by omega
      have hj : t % k < k := Nat.mod_lt _ (by omega)
      have hj2 : (t + 1) % k < k := Nat.mod_lt _ (by omega)
      obtain ⟨g1, g1b⟩ := hc (t % k) (by rw [HK.out]; exact hj)
      obtain ⟨g2, g2b⟩ := hc ((t + 1) % k) (by rw [HK.out]; exact hj2)
      obtain ⟨j, hje⟩ : ∃ j, t % k = j := ⟨_, rfl⟩
      obtain ⟨j2, hje2⟩ : ∃ j, (t + 1) % k = j := ⟨_, rfl⟩
      obtain ⟨d, hde⟩ : ∃ d, t / k = d := ⟨_, rfl⟩
      have m1 : (t : Int) % (k : Int) = (j : Int) := by omega
      have m2 : ((t : Int) + 1) % (k : Int) = (j2 : Int) := by rw [← hje2]; simp
      have m3 : (t : Int) / (k : Int) = (d : Int) := by omega
      have hd : d ≤ 1073741824 := by rw [← hde]; exact Nat.le_trans (Nat.div_le_self _ _) ht
      rw [hje] at g1 g1b hj
      rw [hje2] at g2 g2b hj2
      obtain ⟨x, hx⟩ : ∃ x, bs.getD j 0 = x := ⟨_, rfl⟩
      obtain ⟨x2, hx2⟩ : ∃ x, bs.getD j2 0 = x := ⟨_, rfl⟩
      rw [hx] at g1 g1b
      rw [hx2] at g2 g2b
      clear hje hje2 hde hx hx2 hc HR
      have hsb : ¬ s = b := fun e => hbs e.symm
      have j1 : (j : Int) < (k : Int) := by omega
      have j3 : (j2 : Int) < (k : Int) := by omega
      by_cases h200 : 200 < n
      · go_enter Tryd.func26, Tryd.ntmps26
        go_wp2_with fail
        go_quiet (fail)
        go_wp2_with fail
        go_quiet (fail)
        go_wp2
        go_ret
        exact ⟨_, rfl, Int.emod_nonneg _ hn0, fun _ => Int.emod_lt_of_pos _ (by omega), t + 1, drawn_one HS.out _⟩
      · go_enter Tryd.func26, Tryd.ntmps26
        go_wp2_with fail
        go_quiet (fail)
        go_wp2
        go_ret
        exact ⟨_, rfl, Int.emod_nonneg _ hn0, fun _ => Int.emod_lt_of_pos _ (by omega), t + 1, drawn_one HS.out _⟩
end Go.Proofs.YtncgpfapepminaaDoor
/- What is wrong with words and with a disk: 'wordsFault', 'DiskFault' of the program and of the model answer one and the same number. -/
namespace Go.Proofs.YtncgpfapepminaaDoor
open Go.RowKit

/-- The fault of n words. -/
def wF (X : Nat → Int) (n : Nat) : Int := if 64 < n then 2 else if (∀ i, i < n → 0 ≤ X i ∧ X i ≤ 65535) then 0 else 3
theorem wF_many {X : Nat → Int} {n : Nat} (h : 64 < n) : wF X n = 2 := by unfold wF; rw [if_pos h]
theorem wF_ok {X : Nat → Int} {n : Nat} (h : n ≤ 64) (h' : ∀ i, i < n → 0 ≤ X i ∧ X i ≤ 65535) : wF X n = 0 := by unfold wF; rw [if_neg (by omega), if_pos h']
theorem wF_range {X : Nat → Int} {n : Nat} (h : n ≤ 64) {i : Nat} (hi : i < n) (h' : X i < 0 ∨ 65535 < X i) : wF X n = 3 := by
  unfold wF; rw [if_neg (by omega), if_neg (fun k => by have := k i hi; omega)]
def wordsF (xs : List Int) : Int := wF (fun i => xs.getD i 0) xs.length

theorem l1In_yes (v lo hi : Int) (h1 : lo ≤ v) (h2 : v ≤ hi) (w : World) :
    Calls Tryd.prog 33 #[.int .i64 v, .int .i64 lo, .int .i64 hi] w fun e w' => e = .returned (.bool true) ∧ w' = w := by
  go_enter Tryd.func33, Tryd.ntmps33
  go_wp2
  go_ret
  exact ⟨rfl, rfl⟩

theorem l1In_no (v lo hi : Int) (h : v < lo ∨ hi < v) (w : World) :
    Calls Tryd.prog 33 #[.int .i64 v, .int .i64 lo, .int .i64 hi] w fun e w' => e = .returned (.bool false) ∧ w' = w := by
  by_cases h1 : v < lo
  · go_enter Tryd.func33, Tryd.ntmps33
    go_wp2
    go_ret
    exact ⟨by simp, rfl⟩
  · have h2 : hi < v := by omega
    clear h
    go_enter Tryd.func33, Tryd.ntmps33
    go_wp2
    go_ret
    exact ⟨by simp [h2], rfl⟩

theorem wordsFault_cells (X : Nat → Int) (n b off c : Nat) (w : World) (hm : n ≤ 9223372036854775807)
    (hx : ∀ i, i < n → w.cell? ⟨b, off + i, none⟩ = some (.int .i64 (X i))) :
    Calls Tryd.prog 71 #[.slice (some ⟨b, off, none⟩) n c] w fun e w' => e = .returned (.int .i64 (wF X n)) ∧ ∃ q, w' = w.drewN q := by
  have HX := hide hx
  clear hx
  by_cases hn : 64 < n
  · have HZ := hide (wF_many (X := X) hn)
    go_enter Tryd.func71, Tryd.ntmps71
    go_wp2
    go_ret
    exact ⟨ret_int HZ.out.symm, 0, rfl⟩
  · go_enter Tryd.func71, Tryd.ntmps71
    go_wp2
    go_loopw [10] (fun i wr => ∃ k : Nat, k ≤ n ∧ i = .int .i64 k ∧ Hid (∀ j, j < k → 0 ≤ X j ∧ X j ≤ 65535) ∧ wr = w) (fun i _ => n - (intOf i).toNat)
    case atStart => exact ⟨0, Nat.zero_le _, rfl, fun j hj => absurd hj (Nat.not_lt_zero _), rfl⟩
    case round =>
      obtain ⟨k, hk, rfl, HA, rfl⟩ := hrel
      by_cases hlt : k < n
      · have g1 := HX.out k hlt
        by_cases h1 : X k < 0
        · have HZ := hide (wF_range (X := X) (by omega) hlt (Or.inl h1))
          go_wp2
          go_ret
          exact ⟨ret_int HZ.out.symm, 0, rfl⟩
        · by_cases h2 : 65535 < X k
          · have HZ := hide (wF_range (X := X) (by omega) hlt (Or.inr h2))
            go_wp2
            go_ret
            exact ⟨ret_int HZ.out.symm, 0, rfl⟩
          · go_wp2
            go_roundw
            case rel => exact ⟨k + 1, by omega, by go_num, fun j hj => (by by_cases e : j = k; · subst e; omega
                                                                           · exact HA.out j (by omega)), by simp⟩
            case measure => simp [intOf]; omega
      · have HZ := hide (wF_ok (X := X) (n := n) (by omega) (fun i hi => HA.out i (by omega)))
        go_wp2
        go_ret
        exact ⟨ret_int HZ.out.symm, 0, rfl⟩

theorem wordsFault_none (ao : Option Addr) (c : Nat) (w : World) :
    Calls Tryd.prog 71 #[.slice ao 0 c] w fun e w' => e = .returned (.int .i64 0) ∧ ∃ q, w' = w.drewN q := by
  go_enter Tryd.func71, Tryd.ntmps71
  go_wp2
  go_loopw [10] (fun i wr => i = .int .i64 0 ∧ wr = w) (fun _ _ => 0)
  case atStart => exact ⟨rfl, rfl⟩
  case round =>
    obtain ⟨rfl, rfl⟩ := hrel
    go_wp2
    go_ret
    exact ⟨rfl, 0, rfl⟩

/-- 'impl.wordsFault' of a reading. -/
theorem wordsFault {S : Nat → Prop} {w : World} {v : Value} {xs : List Int} (hv : RdI S w v xs) :
    Calls Tryd.prog 71 #[v] w fun e w' => e = .returned (.int .i64 (wordsF xs)) ∧ ∃ q, w' = w.drewN q := by
  obtain ⟨ao, c, rfl, hm, h⟩ := hv
  by_cases hne : xs = []
  · subst hne
    have e0 : wordsF [] = 0 := wF_ok (by simp) (by simp)
    rw [e0]
    exact wordsFault_none _ _ _
  · obtain ⟨b, off, rfl, _, hc⟩ := h hne
    exact wordsFault_cells _ _ _ _ _ _ hm hc

theorem l1Words_cells (X : Nat → Int) (n b off c : Nat) (w : World) (hm : n ≤ 9223372036854775807)
    (hx : ∀ i, i < n → w.cell? ⟨b, off + i, none⟩ = some (.int .i64 (X i))) :
    Calls Tryd.prog 81 #[.slice (some ⟨b, off, none⟩) n c] w fun e w' => e = .returned (.int .i64 (wF X n)) ∧ ∃ q, w' = w.drewN q := by
  have HX := hide hx
  clear hx
  by_cases hn : 64 < n
  · have HZ := hide (wF_many (X := X) hn)
    go_enter Tryd.func81, Tryd.ntmps81
    go_wp2
    go_ret
    exact ⟨ret_int HZ.out.symm, 0, rfl⟩
  · go_enter Tryd.func81, Tryd.ntmps81
    go_wp2
    go_loopw [3] (fun i wr => ∃ k : Nat, k ≤ n ∧ i = .int .i64 k ∧ Hid (∀ j, j < k → 0 ≤ X j ∧ X j ≤ 65535) ∧ wr = w) (fun i _ => n - (intOf i).toNat)
    case atStart => exact ⟨0, Nat.zero_le _, rfl, fun j hj => absurd hj (Nat.not_lt_zero _), rfl⟩
    case round =>
      obtain ⟨k, hk, rfl, HA, rfl⟩ := hrel
      by_cases hlt : k < n
      · have g1 := HX.out k hlt
        by_cases h1 : X k < 0 ∨ 65535 < X k
        · have HZ := hide (wF_range (X := X) (by omega) hlt h1)
          have H1 := hide h1
          clear h1
          go_wp2_with fail
          refine (l1In_no _ _ _ H1.out _).mono ?_
          rintro e w' ⟨rfl, rfl⟩
          go_wp2
          go_ret
          exact ⟨ret_int HZ.out.symm, 0, rfl⟩
        · have h2 : 0 ≤ X k := by omega
          have h3 : X k ≤ 65535 := by omega
          clear h1
          go_wp2_with fail
          refine (l1In_yes _ _ _ h2 h3 _).mono ?_
          rintro e w' ⟨rfl, rfl⟩
          go_wp2
          go_roundw
          case rel => exact ⟨k + 1, by omega, by go_num, fun j hj => (by by_cases e : j = k; · subst e; omega
                                                                         · exact HA.out j (by omega)), by simp⟩
          case measure => simp [intOf]; omega
      · have HZ := hide (wF_ok (X := X) (n := n) (by omega) (fun i hi => HA.out i (by omega)))
        go_wp2
        go_ret
        exact ⟨ret_int HZ.out.symm, 0, rfl⟩

theorem l1Words_none (ao : Option Addr) (c : Nat) (w : World) :
    Calls Tryd.prog 81 #[.slice ao 0 c] w fun e w' => e = .returned (.int .i64 0) ∧ ∃ q, w' = w.drewN q := by
  go_enter Tryd.func81, Tryd.ntmps81
  go_wp2
  go_loopw [3] (fun i wr => i = .int .i64 0 ∧ wr = w) (fun _ _ => 0)
  case atStart => exact ⟨rfl, rfl⟩
  case round =>
    obtain ⟨rfl, rfl⟩ := hrel
    go_wp2
    go_ret
    exact ⟨rfl, 0, rfl⟩

/-- 'spec.l1Words' of a reading. -/
theorem l1Words {S : Nat → Prop} {w : World} {v : Value} {xs : List Int} (hv : RdI S w v xs) :
    Calls Tryd.prog 81 #[v] w fun e w' => e = .returned (.int .i64 (wordsF xs)) ∧ ∃ q, w' = w.drewN q := by
  obtain ⟨ao, c, rfl, hm, h⟩ := hv
  by_cases hne : xs = []
  · subst hne
    have e0 : wordsF [] = 0 := wF_ok (by simp) (by simp)
    rw [e0]
    exact l1Words_none _ _ _
  · obtain ⟨b, off, rfl, _, hc⟩ := h hne
    exact l1Words_cells _ _ _ _ _ _ hm hc

/-- The first fault among rows. -/
def firstF : List (List Int) → Int
  | [] => 0
  | xs :: r => if wordsF xs = 0 then firstF r else wordsF xs
/-- The first fault among puts, on a disk of n blocks. -/
def firstP (n : Nat) : List (Int × List Int) → Int
  | [] => 0
  | p :: r => if 0 ≤ p.1 ∧ p.1 < (n : Int) then (if wordsF p.2 = 0 then firstP n r else wordsF p.2) else 3
def diskF (xss : List (List Int)) (ps : List (Int × List Int)) : Int :=
  if 70 < xss.length ∨ 200 < ps.length then 2 else if firstF xss = 0 then firstP xss.length ps else firstF xss

theorem firstF_ok {xss : List (List Int)} {k : Nat} (h : k < xss.length) (h0 : wordsF (xss.getD k []) = 0) : firstF (xss.drop k) = firstF (xss.drop (k + 1)) := by
  rw [List.drop_eq_getElem_cons h]
  simp only [firstF]
  rw [if_pos (by simpa [List.getD, h] using h0)]
theorem firstF_no {xss : List (List Int)} {k : Nat} (h : k < xss.length) (h0 : wordsF (xss.getD k []) ≠ 0) : firstF (xss.drop k) = wordsF (xss.getD k []) := by
  rw [List.drop_eq_getElem_cons h]
  simp only [firstF]
  rw [if_neg (by simpa [List.getD, h] using h0)]
  simp [List.getD, h]
theorem firstF_end {xss : List (List Int)} {k : Nat} (h : xss.length ≤ k) : firstF (xss.drop k) = 0 := by rw [List.drop_eq_nil_of_le h]; rfl
theorem firstP_ok {n : Nat} {ps : List (Int × List Int)} {k : Nat} (h : k < ps.length) (ha : 0 ≤ (ps.getD k (0, [])).1 ∧ (ps.getD k (0, [])).1 < (n : Int)) (h0 : wordsF (ps.getD k (0, [])).2 = 0) : firstP n (ps.drop k) = firstP n (ps.drop (k + 1)) := by
  rw [List.drop_eq_getElem_cons h]
  simp only [firstP]
  simp only [List.getD, List.getElem?_eq_getElem h, Option.getD_some] at ha h0
  rw [if_pos ha, if_pos h0]
theorem firstP_no {n : Nat} {ps : List (Int × List Int)} {k : Nat} (h : k < ps.length) (ha : 0 ≤ (ps.getD k (0, [])).1 ∧ (ps.getD k (0, [])).1 < (n : Int)) (h0 : wordsF (ps.getD k (0, [])).2 ≠ 0) : firstP n (ps.drop k) = wordsF (ps.getD k (0, [])).2 := by
  rw [List.drop_eq_getElem_cons h]
  simp only [firstP]
  simp only [List.getD, List.getElem?_eq_getElem h, Option.getD_some] at ha h0 ⊢
  rw [if_pos ha, if_neg h0]
theorem firstP_at {n : Nat} {ps : List (Int × List Int)} {k : Nat} (h : k < ps.length) (ha : ¬ (0 ≤ (ps.getD k (0, [])).1 ∧ (ps.getD k (0, [])).1 < (n : Int))) : firstP n (ps.drop k) = 3 := by
  rw [List.drop_eq_getElem_cons h]
  simp only [firstP]
  simp only [List.getD, List.getElem?_eq_getElem h, Option.getD_some] at ha
  rw [if_neg ha]
theorem firstP_end {n : Nat} {ps : List (Int × List Int)} {k : Nat} (h : ps.length ≤ k) : firstP n (ps.drop k) = 0 := by rw [List.drop_eq_nil_of_le h]; rfl
theorem diskF_many {xss : List (List Int)} {ps : List (Int × List Int)} (h : 70 < xss.length ∨ 200 < ps.length) : diskF xss ps = 2 := by unfold diskF; rw [if_pos h]
theorem diskF_rows {xss : List (List Int)} {ps : List (Int × List Int)} (h : ¬ (70 < xss.length ∨ 200 < ps.length)) (h0 : firstF xss ≠ 0) : diskF xss ps = firstF xss := by unfold diskF; rw [if_neg h, if_neg h0]
theorem diskF_puts {xss : List (List Int)} {ps : List (Int × List Int)} (h : ¬ (70 < xss.length ∨ 200 < ps.length)) (h0 : firstF xss = 0) : diskF xss ps = firstP xss.length ps := by unfold diskF; rw [if_neg h, if_pos h0]
end Go.Proofs.YtncgpfapepminaaDoor
