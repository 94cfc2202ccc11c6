/- ObV FiV Draw Draw2 Rowi Mp4 in one text: what each says stands at its head below. -/
import Derived.Test.YtbfdnjhdlnfpmaaG10
import Derived.Test.YtbfdnjhdlnfpmaaG04
import Derived.Test.YtbfdnjhdlnfpmaaG02
import Derived.Test.YtbfdnjhdlnfpmaaG07
import Derived.Test.YtbfdnjhdlnfpmaaG06
import Derived.Deep.RegionLaw
/- Chapter 5: objects among the arguments. Made by program (genlawj.py). -/
namespace Go.Proofs.Ytbfdnjhdlnfpmaa
open Go.RowKit

theorem totJ_eq (ps : List Oj) : ∀ j, j ≤ ps.length → totJ ps j = totX ps j + 2 * j := by
  intro j
  induction j with
  | zero => intro _; rw [totJ_zero, totX_zero]
  | succ j ih =>
    intro h
    rw [totJ_succ ps j (by omega), totX_succ ps j (by omega), ih (by omega)]
    omega
theorem len_le_totX (ps : List Oj) (i : Nat) (h : i < ps.length) : (ps.getD i oj0).2.2.length ≤ totX ps ps.length := by
  have h1 := totX_succ ps i h
  have h2 := totX_le ps (i + 1) ps.length h
  omega
def szU (qs : List Oj) : Int := (qs.length : Int) + (totX qs qs.length : Int)
theorem szU_nonneg (qs : List Oj) : 0 ≤ szU qs := by unfold szU; omega
theorem smallU {qs : List Oj} (h : szU qs ≤ 1048576) : qs.length ≤ 1048576 ∧ (∀ i, i < qs.length → (qs.getD i oj0).2.2.length ≤ 1048576) ∧ (totJ qs qs.length : Int) ≤ 4194304 := by
  unfold szU at h
  have h3 := totJ_eq qs qs.length (Nat.le_refl _)
  exact ⟨by omega, fun i hi => by have := len_le_totX qs i hi; omega, by omega⟩

/-- Objects in [lo, hi). -/
def IvJ (lo hi : Nat) (w : World) (v : Value) (ps : List Oj) : Prop :=
  ∃ S : Nat → Prop, hi ≤ w.heap.size ∧ (∀ b, S b → lo ≤ b ∧ b < hi) ∧ OwJ S w v ps
theorem OwJ.iv {B : Nat} {w : World} {v : Value} {ps : List Oj} (h : OwJ (fun b => B ≤ b ∧ b < w.heap.size) w v ps) : IvJ B w.heap.size w v ps :=
  ⟨_, Nat.le_refl _, fun _ hb => hb, h⟩
theorem IvJ.wr {lo hi : Nat} {V : Nat → Prop} {w w' : World} {v : Value} {ps : List Oj} (h : IvJ lo hi w v ps) (hw : Wr V w w') (hd : ∀ b, lo ≤ b → b < hi → ¬ V b) : IvJ lo hi w' v ps := by
  obtain ⟨S, h0, h1, h2⟩ := h
  exact ⟨S, Nat.le_trans h0 hw.size, h1, h2.wr hw fun b hb => hd b (h1 b hb).1 (h1 b hb).2⟩
theorem IvJ.later {lo hi : Nat} {w w' : World} {v : Value} {ps : List Oj} (h : IvJ lo hi w v ps) (hb : Below w.heap.size w w') : IvJ lo hi w' v ps :=
  h.wr (Wr.of_below hb fun _ => False) fun _ _ _ => id
theorem IvJ.rd {lo hi : Nat} {w : World} {v : Value} {ps : List Oj} (h : IvJ lo hi w v ps) : RdJ (fun b => lo ≤ b ∧ b < hi) w v ps := by
  obtain ⟨S, h0, h1, h2⟩ := h
  exact (h2.mono h1).rd

/-- Objects in [lo, hi) whose marks stand from k on. -/
def MkJs (k : Int) (lo hi : Nat) (w : World) (v : Value) (ps : List Oj) : Prop := RdJ (fun b => lo ≤ b ∧ b < hi) w v (mkJ k ps)
theorem MkJs.wr {k : Int} {lo hi : Nat} {V : Nat → Prop} {w w' : World} {v : Value} {ps : List Oj} (h : MkJs k lo hi w v ps) (hw : Wr V w w') (hd : ∀ b, lo ≤ b → b < hi → ¬ V b) : MkJs k lo hi w' v ps :=
  RdJ.wr h hw fun b hb => hd b hb.1 hb.2
theorem MkJs.later {k : Int} {lo hi : Nat} {w w' : World} {v : Value} {ps : List Oj} (h : MkJs k lo hi w v ps) (hb : Below w.heap.size w w') : MkJs k lo hi w' v ps := RdJ.later h hb

end Go.Proofs.Ytbfdnjhdlnfpmaa
/- Chapter 8: files among the arguments; a code with files. Made by program (genfi.py). -/
namespace Go.Proofs.Ytbfdnjhdlnfpmaa
open Go.RowKit


/-- What a call that ends in a code and files is to leave. -/
def EndsFi (x : Int) (rs : List Oj) (w : World) (e : Ending) (w' : World) : Prop :=
  ∃ z, e = .returned (.agg #[.int .i64 x, z]) ∧ Below w.heap.size w w' ∧ OwJ (fun b => w.heap.size ≤ b ∧ b < w'.heap.size) w' z rs

theorem IvJ.mono {lo hi lo' : Nat} {w : World} {v : Value} {ps : List Oj} (h : IvJ lo hi w v ps) (h1 : lo' ≤ lo) : IvJ lo' hi w v ps := by
  obtain ⟨S, k0, k1, k2⟩ := h
  exact ⟨S, k0, fun b hb => ⟨Nat.le_trans h1 (k1 b hb).1, (k1 b hb).2⟩, k2⟩
end Go.Proofs.Ytbfdnjhdlnfpmaa
/- The model's draws: 'spec.l1Next', 'spec.l1Pick', 'spec.l1Source', walked: what they answer is some number in its bounds. -/
namespace Go.Proofs.Ytbfdnjhdlnfpmaa
open Go.RowKit

/-- The slice value v reads as the bytes bs; none of them in block s. -/
def RdB (s : Nat) (w : World) (v : Value) (bs : List Nat) : Prop :=
  ∃ (ao : Option Addr) (c : Nat), v = .slice ao bs.length c ∧ bs.length ≤ 2097152 ∧
    (bs ≠ [] → ∃ b off, ao = some ⟨b, off, none⟩ ∧ b ≠ s ∧ ∀ i, i < bs.length → w.cell? ⟨b, off + i, none⟩ = some (.int .u8 ((bs.getD i 0 : Nat) : Int)) ∧ bs.getD i 0 ≤ 255)

/-- A source of draws in block s; t numbers have been drawn. -/
structure Src (s : Nat) (v : Value) (bs : List Nat) (w : World) (t : Nat) : Prop where
  code : w.cell? ⟨s, 0, none⟩ = some v
  at_ : w.cell? ⟨s, 1, none⟩ = some (.int .i64 (t : Int))
  free : ∀ o, w.frozen? ⟨s, o, none⟩ = false
  rd : RdB s w v bs

theorem RdB.wr {s : Nat} {w w' : World} {v : Value} {bs : List Nat} (h : RdB s w v bs) (hw : Wr (· = s) w w') : RdB s w' v bs := by
  obtain ⟨ao, c, e1, e2, e3⟩ := h
  refine ⟨ao, c, e1, e2, fun hne => ?_⟩
  obtain ⟨b, off, f1, f2, f3⟩ := e3 hne
  exact ⟨b, off, f1, f2, fun i hi => ⟨cell_wr hw (f3 i hi).1 f2, (f3 i hi).2⟩⟩

theorem Src.set {s : Nat} {v : Value} {bs : List Nat} {w : World} {t : Nat} (h : Src s v bs w t) : Src s v bs (w.setCell ⟨s, 1, none⟩ (.int .i64 ((t : Int) + 1))) (t + 1) := by
  refine ⟨?_, ?_, fun o => by rw [World.frozen?_setCell]; exact h.free o, h.rd.wr ((Wr.refl (· = s) w).setCell (p := ⟨s, 1, none⟩) rfl _)⟩
  · rw [World.cell?_setCell_other _ _ _ _ (by simp)]; exact h.code
  · rw [World.cell?_setCell_same _ _ _ h.at_]; simp

theorem Src.drewN {s : Nat} {v : Value} {bs : List Nat} {w : World} {t : Nat} (h : Src s v bs w t) (q : Nat) : Src s v bs (w.drewN q) t := ⟨h.code, h.at_, h.free, h.rd⟩
theorem Src.lt {s : Nat} {v : Value} {bs : List Nat} {w : World} {t : Nat} (h : Src s v bs w t) : s < w.heap.size := World.block_lt_of_cell? _ _ h.code
theorem Src.later {s : Nat} {v : Value} {bs : List Nat} {w w' : World} {t : Nat} (h : Src s v bs w t) (hb : Below w.heap.size w w') : Src s v bs w' t := by
  refine ⟨cell_later hb h.code, cell_later hb h.at_, fun o => ((bcell hb).2 _ _ h.lt).trans (h.free o), ?_⟩
  obtain ⟨ao, c, e1, e2, e3⟩ := h.rd
  refine ⟨ao, c, e1, e2, fun hne => ?_⟩
  obtain ⟨b, off, f1, f2, f3⟩ := e3 hne
  exact ⟨b, off, f1, f2, fun i hi => ⟨cell_later hb (f3 i hi).1, (f3 i hi).2⟩⟩

/-- What a draw leaves. -/
def Drawn (N s : Nat) (v : Value) (bs : List Nat) (t t' : Nat) (w w' : World) : Prop := Src s v bs w' t' ∧ Wr (· = s) w w' ∧ t' ≤ t + N

theorem drawn_one {s : Nat} {v : Value} {bs : List Nat} {w : World} {t : Nat} (h : Src s v bs w t) (q : Nat) : Drawn 1 s v bs t (t + 1) w ((w.setCell ⟨s, 1, none⟩ (.int .i64 ((t : Int) + 1))).drewN q) :=
  ⟨h.set.drewN q, ((Wr.refl (· = s) w).setCell (p := ⟨s, 1, none⟩) rfl _).drewN q, Nat.le_refl _⟩

set_option maxHeartbeats 2000000 in
set_option maxRecDepth 4000 in
/-- 'l1Next': some number below n. -/
theorem l1Next {s : Nat} {v : Value} {bs : List Nat} {w : World} {t : Nat} (n : Int) (hS : Src s v bs w t) (ht : t ≤ 1073741824) (hn : n ≤ 1073741824) (hn1 : -1073741824 ≤ n) :
    Calls Try.prog 24 #[.pointer (some ⟨s, 0, none⟩), .int .i64 n] w fun e w' => ∃ r : Int, e = .returned (.int .i64 r) ∧ 0 ≤ r ∧ (1 ≤ n → r < n) ∧ ∃ t', Drawn 1 s v bs t t' w w' := by
  have HS := hide hS
  have c1 := hS.at_
  have c0 := hS.code
  have f1 := hS.free 1
  obtain ⟨ao, c, rfl, hk, hrd⟩ := hS.rd
  have HR := hide hrd
  clear hrd hS
  obtain ⟨k, hk'⟩ : ∃ k, bs.length = k := ⟨_, rfl⟩
  have HK := hide hk'
  rw [hk'] at hk c0 HS ⊢
  clear hk'
  by_cases hlt : n < 1
  · go_enter Try.func24, Try.ntmps24
    go_wp2
    go_ret
    exact ⟨0, rfl, by omega, fun h => by omega, t + 1, drawn_one HS.out 0⟩
  · have hn0 : ¬ n = 0 := by omega
    by_cases hk0 : k = 0
    · subst hk0
      go_enter Try.func24, Try.ntmps24
      go_wp2
      go_ret
      exact ⟨_, rfl, Int.emod_nonneg _ hn0, Int.emod_lt_of_pos _ (by omega), t + 1, drawn_one HS.out 0⟩
    · obtain ⟨b, off, rfl, hbs, hc⟩ := HR.out (by rintro rfl; exact hk0 (by rw [← HK.out]; rfl))
      have hkz : ¬ (k : Int) = 0 := by omega
      have hj : t % k < k := Nat.mod_lt _ (by omega)
      have hj2 : (t + 1) % k < k := Nat.mod_lt _ (by omega)
      obtain ⟨g1, g1b⟩ := hc (t % k) (by rw [HK.out]; exact hj)
      obtain ⟨g2, g2b⟩ := hc ((t + 1) % k) (by rw [HK.out]; exact hj2)
      obtain ⟨j, hje⟩ : ∃ j, t % k = j := ⟨_, rfl⟩
      obtain ⟨j2, hje2⟩ : ∃ j, (t + 1) % k = j := ⟨_, rfl⟩
      obtain ⟨d, hde⟩ : ∃ d, t / k = d := ⟨_, rfl⟩
      have m1 : (t : Int) % (k : Int) = (j : Int) := by omega
      have m2 : ((t : Int) + 1) % (k : Int) = (j2 : Int) := by rw [← hje2]; simp
      have m3 : (t : Int) / (k : Int) = (d : Int) := by omega
      have hd : d ≤ 1073741824 := by rw [← hde]; exact Nat.le_trans (Nat.div_le_self _ _) ht
      rw [hje] at g1 g1b hj
      rw [hje2] at g2 g2b hj2
      obtain ⟨x, hx⟩ : ∃ x, bs.getD j 0 = x := ⟨_, rfl⟩
      obtain ⟨x2, hx2⟩ : ∃ x, bs.getD j2 0 = x := ⟨_, rfl⟩
      rw [hx] at g1 g1b
      rw [hx2] at g2 g2b
      clear hje hje2 hde hx hx2 hc HR
      have hsb : ¬ s = b := fun e => hbs e.symm
      have j1 : (j : Int) < (k : Int) := by omega
      have j3 : (j2 : Int) < (k : Int) := by omega
      by_cases h200 : 200 < n
      · go_enter Try.func24, Try.ntmps24
        go_wp2_with fail
        go_quiet (fail)
        go_wp2_with fail
        go_quiet (fail)
        go_wp2
        go_ret
        exact ⟨_, rfl, Int.emod_nonneg _ hn0, fun _ => Int.emod_lt_of_pos _ (by omega), t + 1, drawn_one HS.out _⟩
      · go_enter Try.func24, Try.ntmps24
        go_wp2_with fail
        go_quiet (fail)
        go_wp2
        go_ret
        exact ⟨_, rfl, Int.emod_nonneg _ hn0, fun _ => Int.emod_lt_of_pos _ (by omega), t + 1, drawn_one HS.out _⟩
end Go.Proofs.Ytbfdnjhdlnfpmaa
/- The model's draws of lists: 'spec.l1Pick', 'spec.l1Source', 'spec.l1DrawWords', walked. -/
namespace Go.Proofs.Ytbfdnjhdlnfpmaa
open Go.RowKit

theorem Wr.onBelow {S : Nat → Prop} {a w w' : World} (h : Wr S a w) (k : Below a.heap.size w w') : Wr S a w' :=
  ⟨k.os.trans h.os, k.tape.trans h.tape, k.output.trans h.output, Nat.le_trans h.size k.size, fun i hi hs => (k.block i hi).trans (h.block i hi hs), fun b o hb => (k.frozen (p := ⟨b, o, none⟩) hb).trans (h.frz b o hb)⟩

theorem Drawn.on {M N s : Nat} {v : Value} {bs : List Nat} {t t' t'' : Nat} {a b c : World} (h : Drawn M s v bs t t' a b) (k : Drawn N s v bs t' t'' b c) : Drawn (M + N) s v bs t t'' a c :=
  ⟨k.1, h.2.1.trans k.2.1, by have := h.2.2; have := k.2.2; omega⟩
theorem Drawn.refl {s : Nat} {v : Value} {bs : List Nat} {t : Nat} {w : World} (h : Src s v bs w t) : Drawn 0 s v bs t t w w := ⟨h, Wr.refl _ _, Nat.le_refl _⟩
theorem Drawn.later {N s : Nat} {v : Value} {bs : List Nat} {t t' : Nat} {a b c : World} (h : Drawn N s v bs t t' a b) (hb : Below b.heap.size b c) : Drawn N s v bs t t' a c :=
  ⟨h.1.later hb, h.2.1.on hb, h.2.2⟩
theorem Drawn.mono {M N s : Nat} {v : Value} {bs : List Nat} {t t' : Nat} {a b : World} (h : Drawn M s v bs t t' a b) (hN : M ≤ N) : Drawn N s v bs t t' a b := ⟨h.1, h.2.1, by have := h.2.2; omega⟩

theorem l1Source {w : World} {v : Value} {bs : List Nat} (hv : RdB w.heap.size w v bs) :
    Calls Try.prog 21 #[v] w fun e w' => e = .returned (.pointer (some ⟨w.heap.size, 0, none⟩)) ∧ Below w.heap.size w w' ∧ w'.heap.size = w.heap.size + 1 ∧ Src w.heap.size v bs w' 0 := by
  have HV := hide hv
  obtain ⟨ao, c, rfl, h2, h3⟩ := hv
  go_enter Try.func21, Try.ntmps21
  go_wp2
  go_ret
  refine ⟨rfl, below_alloc _ _, by simp, by simp [go_sem], by simp [go_sem], fun o => by simp [go_sem], ?_⟩
  obtain ⟨ao', c', e1, e2, e3⟩ := HV.out
  refine ⟨ao', c', e1, e2, fun hne => ?_⟩
  obtain ⟨b, off, f1, f2, f3⟩ := e3 hne
  exact ⟨b, off, f1, f2, fun i hi => ⟨cell_later (below_alloc _ _) (f3 i hi).1, (f3 i hi).2⟩⟩

set_option maxHeartbeats 1000000 in
/-- 'l1Pick': one of the list. -/
theorem l1Pick {s : Nat} {v u : Value} {bs : List Nat} {w : World} {t : Nat} {xs : List Int} (hS : Src s v bs w t) (ht : t ≤ 1073741824) (hu : RdI (· ≠ s) w u xs) (hx0 : xs ≠ []) (hxl : xs.length ≤ 1048576) :
    Calls Try.prog 25 #[.pointer (some ⟨s, 0, none⟩), u] w fun e w' => ∃ i, i < xs.length ∧ e = .returned (.int .i64 (xs.getD i 0)) ∧ ∃ t', Drawn 1 s v bs t t' w w' := by
  have HS := hide hS
  obtain ⟨ao, c, rfl, h2, h3⟩ := hu
  obtain ⟨b, off, rfl, hb, hc⟩ := h3 hx0
  have HC := hide hc
  obtain ⟨k, hk⟩ : ∃ k, xs.length = k := ⟨_, rfl⟩
  have HK := hide hk
  have hk0 : 0 < k := by rw [← hk]; exact List.length_pos_iff.2 hx0
  rw [hk] at hxl ⊢
  clear hS h2 h3 hc hk hx0
  go_enter Try.func25, Try.ntmps25
  go_wp2_with fail
  refine (l1Next (k : Int) HS.out ht (by omega) (by omega)).mono ?_
  rintro e w1 ⟨r, rfl, hr0, hr1, t', hd⟩
  have hr2 : r < (k : Int) := hr1 (by omega)
  obtain ⟨i, rfl⟩ : ∃ i : Nat, r = (i : Int) := ⟨r.toNat, (Int.toNat_of_nonneg hr0).symm⟩
  have hi : i < k := by omega
  have g1 := cell_wr hd.2.1 (HC.out i (by rw [HK.out]; exact hi)) hb
  obtain ⟨x, hx⟩ : ∃ x, xs.getD i 0 = x := ⟨_, rfl⟩
  have HX := hide hx
  rw [hx] at g1
  have HD := hide hd
  clear hr1 hd hx
  go_wp2
  go_ret
  exact ⟨i, hi, ret_int HX.out.symm, t', HD.out⟩
theorem RdI_new (s : Nat) (w : World) (xs : List Int) (t : TypeId) (hs : s < w.heap.size) (hl : xs.length ≤ 1048576) : RdI (· ≠ s) (w.alloc (.cells (xs.map (Value.int .i64)).toArray t)) (.slice (some ⟨w.heap.size, 0, none⟩) xs.length xs.length) xs := by
  refine ⟨_, 0, by simp, by omega, fun _ => ⟨w.heap.size, 0, rfl, by omega, fun i hi => ?_⟩⟩
  simp [go_sem]
  rw [List.getElem?_eq_getElem hi]
  rfl

theorem Drawn.onBelow {N s : Nat} {v : Value} {bs : List Nat} {t0 t t' : Nat} {a b c : World} (h0 : Src s v bs a t0) (h : Drawn N s v bs t t' a b) (hb : Below a.heap.size b c) : Drawn N s v bs t t' a c := by
  have hl := h0.lt
  have hw := h.2.1.onBelow hb
  exact ⟨⟨(hb.cell (p := ⟨s, 0, none⟩) hl).trans h.1.code, (hb.cell (p := ⟨s, 1, none⟩) hl).trans h.1.at_, fun o => (hb.frozen (p := ⟨s, o, none⟩) hl).trans (h.1.free o), h0.rd.wr hw⟩, hw, h.2.2⟩

theorem ownsRow_wr {w w' : World} {B e z s : Nat} {v : Value} {n : Nat} {xs : List Value} (h : w.ownsRow B e z v n xs) (hw : Wr (· = s) w w') (hs : v.ownBlock ≠ some s) : w'.ownsRow B e z v n xs := by
  obtain ⟨h1, h2⟩ := h
  refine ⟨h1, ?_⟩
  rcases h2 with h2 | ⟨g, cap, cur, hv, hg, hh, r⟩
  · exact Or.inl h2
  · exact Or.inr ⟨g, cap, cur, hv, hg, by rw [hw.block g (Array.getElem?_eq_some_iff.1 hh).1 (fun e => hs (by rw [hv, e]; rfl))]; exact hh, r⟩
theorem ownBlock_ne {w : World} {B e z s : Nat} {v : Value} {n : Nat} {xs : List Value} (h : w.ownsRow B e z v n xs) (hs : s < B) : v.ownBlock ≠ some s := fun e => by have := (h.lt _ e).1; omega

theorem made_ints (w : World) (n : Nat) (hn : n ≤ 1048576) (t : TypeId) : OwI w.heap.size (w.alloc (.cells (madeCells #[.int .i64 0] n) t)) (.slice (some ⟨w.heap.size, 0, none⟩) n n) (List.replicate n 0) := by
  refine ⟨w.heap.size, ⟨_, 0, by simp, by simp; omega, fun _ => ⟨w.heap.size, 0, rfl, rfl, fun i hi => ?_⟩⟩, fun _ => ⟨Nat.le_refl _, by simp, fun o => by simp [go_sem]⟩⟩
  have hi' : i < n := by simpa using hi
  have := (World.rowIs_made w (.int .i64 0) n t).cell hi'
  simpa [List.getD, hi'] using this

end Go.Proofs.Ytbfdnjhdlnfpmaa
/- Lists of numbers that may be appended to. -/
namespace Go.Proofs.Ytbfdnjhdlnfpmaa
open Go.RowKit

/-- Lists of numbers, each in a block of its own that may be appended to. -/
def RowsI (P : Nat → Prop) (w : World) (row : Option Nat) (k : Nat) (V : Nat → Value) (X : Nat → List Int) : Prop :=
  (∀ i, i < k → w.ownsRow 0 2 1 (V i) (X i).length ((X i).map (Value.int .i64)) ∧ ∀ r, (V i).ownBlock = some r → P r ∧ row ≠ some r) ∧
    ∀ i j, i < k → j < k → i ≠ j → ∀ r, (V i).ownBlock = some r → (V j).ownBlock ≠ some r
theorem ownsRow_zero {w : World} {B e s : Nat} {v : Value} {n : Nat} {xs : List Value} (h : w.ownsRow B e s v n xs) : w.ownsRow 0 e s v n xs := by
  refine ⟨h.1, ?_⟩
  rcases h.2 with h | ⟨g, cap, cur, h1, _, h3⟩
  · exact Or.inl h
  · exact Or.inr ⟨g, cap, cur, h1, Nat.zero_le _, h3⟩
theorem RowsI.keep {P : Nat → Prop} {w w' : World} {row : Option Nat} {k : Nat} {V : Nat → Value} {X : Nat → List Int} (h : RowsI P w row k V X) (hk : ∀ i, i < k → w'.ownsRow 0 2 1 (V i) (X i).length ((X i).map (Value.int .i64))) : RowsI P w' row k V X :=
  ⟨fun i hi => ⟨hk i hi, (h.1 i hi).2⟩, h.2⟩
/-- A row whose block lies below M stays, whatever goes on from M on. -/
theorem ownsRow_under {w w' : World} {M B e s : Nat} {v : Value} {n : Nat} {xs : List Value} (h : w.ownsRow B e s v n xs) (hb : Below M w w') (hv : ∀ r, v.ownBlock = some r → r < M) : w'.ownsRow B e s v n xs := by
  refine ⟨h.1, ?_⟩
  rcases h.2 with h | ⟨g, cap, cur, h1, h2, h3, h4⟩
  · exact Or.inl h
  · subst h1
    exact Or.inr ⟨g, cap, cur, rfl, h2, (hb.block g (hv g rfl)).trans h3, h4⟩
end Go.Proofs.Ytbfdnjhdlnfpmaa
/- Chapter 7: the words of a map: 'packedMap' of the program, 'l7Pack' of the model, walked. -/
namespace Go.Proofs.Ytbfdnjhdlnfpmaa
open Go.RowKit

/-- A block more in the two words. -/
def pkStep (s : Int × Int) (x : Int) : Int × Int := if x < 13 then (bits .or .i64 s.1 (2 ^ (x - 3).toNat), s.2) else (s.1, bits .or .i64 s.2 (2 ^ (x - 13).toNat))
def pk (xs : List Int) : Int × Int := xs.foldl pkStep (0, 0)
def pkL (xs : List Int) : List Int := [(pk xs).1, (pk xs).2]
theorem pk_snoc (xs : List Int) (k : Nat) (h : k < xs.length) : pk (xs.take (k + 1)) = pkStep (pk (xs.take k)) (xs.getD k 0) := by
  have e : xs.getD k 0 = xs[k] := by simp [List.getD, h]
  unfold pk
  rw [List.take_add_one, List.getElem?_eq_getElem h, List.foldl_append, e]
  rfl
theorem blk_at (p : Int → Bool) (k : Nat) (h : k < (blk p).length) : 3 ≤ (blk p).getD k 0 ∧ (blk p).getD k 0 ≤ 22 := by
  have hm : (blk p).getD k 0 ∈ blk p := by simp [List.getD, h]
  have := (List.mem_filter.1 hm).1
  revert this
  generalize (blk p).getD k 0 = x
  intro hx
  simp only [allB, List.mem_cons, List.not_mem_nil, or_false] at hx
  omega
theorem blk_len (p : Int → Bool) : (blk p).length ≤ 20 := by rw [← blkTo_all]; exact blkTo_len p 20

theorem shl_ok : ∀ y : Nat, y < 10 → IntKind.i64.wrap (2 ^ y) = 2 ^ y := by decide

end Go.Proofs.Ytbfdnjhdlnfpmaa
