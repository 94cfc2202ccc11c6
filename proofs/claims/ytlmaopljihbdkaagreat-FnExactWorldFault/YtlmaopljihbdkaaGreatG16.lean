/- BuiltFi Rs Im1 Ra4 Im2 in one text: what each says stands at its head below. -/
import Derived.Test.YtlmaopljihbdkaaGreatG05
import Derived.Test.YtlmaopljihbdkaaGreatG15
import Derived.Test.YtlmaopljihbdkaaGreatG12
import Derived.Deep.RegionLaw
import Derived.Deep.AppendLies
import Derived.Test.YtlmaopljihbdkaaGreatG11
import Derived.Test.YtlmaopljihbdkaaGreatG14
import Derived.Test.YtlmaopljihbdkaaGreatG10
namespace Go.Proofs.YtlmaopljihbdkaaGreat
open Go.RowKit
def cellsFi (ts : List Oj) (k : Nat) (V : Nat → Value) : List Value :=
  (List.range (k * 3)).map fun t => if t % 3 = 0 then .int .i64 (ts.getD (t / 3) oj0).1 else if t % 3 = 1 then .int .i64 (ts.getD (t / 3) oj0).2.1 else V (t / 3)
theorem cellsFi_flg (ts : List Oj) (k : Nat) (V : Nat → Value) (i : Nat) (h : i < k) : (cellsFi ts k V)[i * 3]? = some (.int .i64 (ts.getD i oj0).1) := by
  unfold cellsFi
  rw [List.getElem?_map, List.getElem?_range (by omega)]
  simp only [Option.map_some]
  rw [if_pos (by omega), show i * 3 / 3 = i by omega]
theorem cellsFi_num (ts : List Oj) (k : Nat) (V : Nat → Value) (i : Nat) (h : i < k) : (cellsFi ts k V)[i * 3 + 1]? = some (.int .i64 (ts.getD i oj0).2.1) := by
  unfold cellsFi
  rw [List.getElem?_map, List.getElem?_range (by omega)]
  simp only [Option.map_some]
  rw [if_neg (by omega), if_pos (by omega), show (i * 3 + 1) / 3 = i by omega]
theorem cellsFi_words (ts : List Oj) (k : Nat) (V : Nat → Value) (i : Nat) (h : i < k) : (cellsFi ts k V)[i * 3 + 2]? = some (V i) := by
  unfold cellsFi
  rw [List.getElem?_map, List.getElem?_range (by omega)]
  simp only [Option.map_some]
  rw [if_neg (by omega), if_neg (by omega), show (i * 3 + 2) / 3 = i by omega]
theorem cellsFi_next (ts : List Oj) (k : Nat) (V : Nat → Value) : cellsFi ts (k + 1) V = cellsFi ts k V ++ [.int .i64 (ts.getD k oj0).1, .int .i64 (ts.getD k oj0).2.1, V k] := by
  unfold cellsFi
  rw [show (k + 1) * 3 = k * 3 + 1 + 1 + 1 by omega, List.range_succ, List.range_succ, List.range_succ]
  simp only [List.map_append, List.append_assoc, List.map_cons, List.map_nil, List.singleton_append]
  congr 1
  rw [if_pos (by omega), if_neg (by omega), if_pos (by omega), if_neg (by omega), if_neg (by omega), show k * 3 / 3 = k by omega, show (k * 3 + 1) / 3 = k by omega, show (k * 3 + 1 + 1) / 3 = k by omega]
  rfl
theorem cellsFi_congr (ts : List Oj) (k : Nat) (V V' : Nat → Value) (h : ∀ i, i < k → V i = V' i) : cellsFi ts k V = cellsFi ts k V' := by
  unfold cellsFi
  refine List.map_congr_left fun t ht => ?_
  have := List.mem_range.1 ht
  rw [h (t / 3) (by omega)]
def BuiltFi (P : Nat → Prop) (w : World) (v : Value) (k : Nat) (ts : List Oj) : Prop :=
  ∃ V Bk, w.ownsRow 0 114 3 v k (cellsFi ts k V) ∧ (∀ r, v.ownBlock = some r → P r) ∧ Inner P w v.ownBlock k V Bk (fun i => (ts.getD i oj0).2.2)
theorem BuiltFi.nil (P : Nat → Prop) (w : World) (ts : List Oj) : BuiltFi P w (.slice none 0 0) 0 ts :=
  ⟨fun _ => .bool false, fun _ => 0, World.ownsRow_nil _ _ _ _, fun _ h => (by cases h), Inner.zero _ _ _ _ _ _⟩
theorem BuiltFi.empty (w : World) (P : Nat → Prop) (hP : P w.heap.size) (ts : List Oj) : BuiltFi P (w.alloc (.cells #[] 114)) (.slice (some ⟨w.heap.size, 0, none⟩) 0 0) 0 ts :=
  ⟨fun _ => .bool false, fun _ => 0, World.ownsRow_made w #[] 0 (Nat.zero_le _) (by unfold maxLen; omega) (by simp), fun r h => by injection h with h; subst h; exact hP, Inner.zero _ _ _ _ _ _⟩
theorem BuiltFi.later {P : Nat → Prop} {w w' : World} {v : Value} {k : Nat} {ts : List Oj} (h : BuiltFi P w v k ts) (hb : Below w.heap.size w w') : BuiltFi P w' v k ts := by
  obtain ⟨V, Bk, h1, h2, h3⟩ := h
  exact ⟨V, Bk, ownsRow_later h1 hb, h2, h3.later hb⟩
theorem BuiltFi.mono {P P' : Nat → Prop} {w : World} {v : Value} {k : Nat} {ts : List Oj} (h : BuiltFi P w v k ts) (hP : ∀ b, P b → b < w.heap.size → P' b) : BuiltFi P' w v k ts := by
  obtain ⟨V, Bk, h1, h2, h3⟩ := h
  exact ⟨V, Bk, h1, fun r hr => hP r (h2 r hr) (h1.lt r hr).2, h3.mono hP⟩
theorem BuiltFi.shape {P : Nat → Prop} {w : World} {v : Value} {k : Nat} {ts : List Oj} (h : BuiltFi P w v k ts) : ∃ ao c, v = .slice ao k c := by
  obtain ⟨V, Bk, h1, _⟩ := h
  rcases h1.2 with ⟨rfl, e⟩ | ⟨g, cap, cur, rfl, _⟩
  · exact ⟨none, 0, by rw [e]⟩
  · exact ⟨_, _, rfl⟩
theorem BuiltFi.step {P P' : Nat → Prop} {w w1 w2 w3 : World} {v z : Value} {k g cap : Nat} {V : Nat → Value} {Bk : Nat → Nat} {ts : List Oj} (hi : Inner P w v.ownBlock k V Bk (fun i => (ts.getD i oj0).2.2)) (hr : w.ownsRow 0 114 3 v k (cellsFi ts k V)) (hpr : ∀ r, v.ownBlock = some r → P r)
    (hP : ∀ b, P b → P' b) (hN : ∀ b, w.heap.size ≤ b → P' b) (hb1 : Below w.heap.size w w1) (hz : OwI w.heap.size w1 z (ts.getD k oj0).2.2) (hb2 : Below w1.heap.size w1 w2)
    (hown : w3.ownsRow 0 114 3 (.slice (some ⟨g, 0, none⟩) (k + 1) cap) (k + 1) (cellsFi ts k V ++ [.int .i64 (ts.getD k oj0).1, .int .i64 (ts.getD k oj0).2.1, z])) (hg : w2.grownBy w3 v.ownBlock) (hat : v.ownBlock = some g ∨ g = w2.heap.size) :
    BuiltFi P' w3 (.slice (some ⟨g, 0, none⟩) (k + 1) cap) (k + 1) ts := by
  obtain ⟨Bk', h⟩ := hi.step hP hN (fun r hr' => (hr.lt r hr').2) hb1 hz hb2 hg hat
  refine ⟨_, Bk', ?_, fun r hr' => ?_, h⟩
  · rw [cellsFi_next, cellsFi_congr ts k _ V (fun i hi => by rw [if_neg (by omega)]), if_pos rfl]
    exact hown
  · injection hr' with hr'
    subst hr'
    rcases hat with hat | hat
    · exact hP _ (hpr _ hat)
    · have h1 := hb1.size
      have h2 := hb2.size
      exact hN _ (by dsimp only; omega)
theorem BuiltFi.ow {P : Nat → Prop} {w : World} {v : Value} {k : Nat} {ts : List Oj} (h : BuiltFi P w v k ts) (hk : ts.length = k) (hm : k ≤ 9223372036854775807) : OwJ (fun b => P b ∧ b < w.heap.size) w v ts := by
  obtain ⟨V, Bk, h1, hpr, h2⟩ := h
  subst hk
  rcases h1.2 with ⟨rfl, e⟩ | ⟨g, cap, cur, rfl, hg, hh, hnc, _⟩
  · have : ts = [] := List.eq_nil_of_length_eq_zero e
    subst this
    exact OwJ_nil _ _
  · refine ⟨_, cap, g, 0, V, Bk, rfl, ⟨hm, hnc⟩, fun _ => ⟨rfl, ⟨hpr g rfl, (Array.getElem?_eq_some_iff.1 hh).1⟩, fun o => h1.frozenAt o⟩, fun i hi => ⟨?_, ?_, ?_, h2.rd i hi, fun hn => ?_⟩⟩
    · rw [Nat.zero_add, h1.cellAt (i * 3) (by omega)]
      exact cellsFi_flg _ _ _ _ hi
    · rw [Nat.zero_add, h1.cellAt (i * 3 + 1) (by omega)]
      exact cellsFi_num _ _ _ _ hi
    · rw [Nat.zero_add, h1.cellAt (i * 3 + 2) (by omega)]
      exact cellsFi_words _ _ _ _ hi
    · obtain ⟨k1, k2, k3, k4, k5⟩ := h2.own i hi hn
      exact ⟨⟨k1, k2⟩, fun e => k4 (by rw [e]; rfl), k3, k5⟩
theorem cellsFi_one {x y : Int} {ao : Option Addr} {n c : Nat} : ∀ u ∈ ([.int .i64 x, .int .i64 y, .slice ao n c] : List Value), u.oneCell' = true := by
  intro u hu
  simp at hu
  rcases hu with rfl | rfl | rfl <;> rfl
theorem ret_files {w w3 : World} {P : Nat → Prop} {r : Nat} {z x : Value} {ts : List Oj} (hb : Below w.heap.size w w3) (hr : w.heap.size ≤ r) (ho : OwJ P w3 z ts) (hP : ∀ b, P b → r < b ∧ b < w3.heap.size) :
    Below w.heap.size w ((w3.setCell ⟨r, 0, none⟩ x).setCell ⟨r, 1, none⟩ z) ∧ OwJ (fun b => w.heap.size ≤ b ∧ b < ((w3.setCell ⟨r, 0, none⟩ x).setCell ⟨r, 1, none⟩ z).heap.size) ((w3.setCell ⟨r, 0, none⟩ x).setCell ⟨r, 1, none⟩ z) z ts := by
  have hw : Wr (fun y => y = r) w3 ((w3.setCell ⟨r, 0, none⟩ x).setCell ⟨r, 1, none⟩ z) := ((Wr.refl (fun y => y = r) _).setCell (p := ⟨r, 0, none⟩) rfl _).setCell (p := ⟨r, 1, none⟩) rfl _
  exact ⟨(hb.setCell (p := ⟨r, 0, none⟩) hr _).setCell (p := ⟨r, 1, none⟩) hr _, (ho.wr hw (fun b h1 e => by have := (hP b h1).1; omega)).mono fun b h1 => by have := hP b h1; simp; omega⟩
theorem Tryz.infoFl : (Tryz.prog.info? 114).map (fun i => (i.zero, i.size, i.bytes)) = some (some (.agg #[.int .i64 0, .int .i64 0, .slice none 0 0]), 3, 40) := by kernel_rfl
end Go.Proofs.YtlmaopljihbdkaaGreat
namespace Go.Proofs.YtlmaopljihbdkaaGreat
open Go.RowKit
structure ResF (w wr : World) : Prop where
  below : Below w.heap.size w wr
  c0 : wr.cell? ⟨w.heap.size, 0, none⟩ = some (.int .i64 0)
  c1 : wr.cell? ⟨w.heap.size, 1, none⟩ = some (.slice none 0 0)
  fr : ∀ o, wr.frozen? ⟨w.heap.size, o, none⟩ = false
theorem ResF.lt {w wr : World} (h : ResF w wr) : w.heap.size < wr.heap.size := World.block_lt_of_cell? _ _ h.c0
theorem ResF.later {w wr w1 : World} (h : ResF w wr) (hb : Below wr.heap.size wr w1) : ResF w w1 :=
  ⟨below_on h.below hb, cell_later hb h.c0, cell_later hb h.c1, fun o => ((bcell hb).2 _ _ h.lt).trans (h.fr o)⟩
theorem ResF.start (w : World) (t : TypeId) : ResF w (w.alloc (.cells #[.int .i64 0, .slice none 0 0] t)) :=
  ⟨below_alloc _ _, by simp [go_sem], by simp [go_sem], fun o => by simp [go_sem]⟩
theorem ResF.shut {w wr : World} (h : ResF w wr) (x y : Value) : Below w.heap.size w ((wr.setCell ⟨w.heap.size, 0, none⟩ x).setCell ⟨w.heap.size, 1, none⟩ y) := (h.below.setCell (Nat.le_refl _) _).setCell (Nat.le_refl _) _
theorem owns_shapeR {w : World} {B e s : Nat} {v : Value} {n : Nat} {xs : List Value} (h : w.ownsRow B e s v n xs) : ∃ ao c, v = .slice ao n c := by
  rcases h.2 with ⟨rfl, rfl⟩ | ⟨g, cap, cur, rfl, _⟩
  · exact ⟨_, _, rfl⟩
  · exact ⟨_, _, rfl⟩
theorem ownsRow_fullF (w : World) (cs : List Value) (e : TypeId) (hm : cs.length ≤ 1048576) : (w.alloc (.cells cs.toArray e)).ownsRow w.heap.size e 1 (.slice (some ⟨w.heap.size, 0, none⟩) cs.length cs.length) cs.length cs :=
  ⟨by simp, .inr ⟨w.heap.size, cs.length, cs.toArray, rfl, Nat.le_refl _, heap_alloc_new w _, Nat.le_refl _, by unfold maxLen; omega, by simp, by simp⟩⟩
theorem step_append_fi {P : Program} (w : World) {ops : Array Oper} {o : Oper} {a : Act} {K : Act → World → Prop} {Q : Exit → Act → World → Prop} {E : Prop} (hgd : o.guard = none) (s x : Operand) (t : TypeId)
    (ho : o.op = .call { callee := .builtin .append, args := #[s, x], argTypes := #[t, t] })
    (base : Nat) (e : TypeId) (i : TypeInfo) (z : Value) (size bytes : Nat) (ht : P.underlying t = some (.slice e)) (hi : P.info? e = some i) (hz : i.zero = some z)
    (hsize : i.size = size) (hby : i.bytes = bytes) (hzs : z.cells.size = size) (hsz : 0 < size)
    (v : Value) (n : Nat) (xs : List Value) (hs : a.eval s = v) (hown : w.ownsRow base e size v n xs)
    (ao : Option Addr) (m c : Nat) (news : List Value) (hx : a.eval x = .slice ao m c) (hl : news.length = m * size)
    (hnews : m ≠ 0 → ∃ ad, ao = some ad ∧ ∀ j u, news[j]? = some u → w.cell? (ad.add j) = some u) (h1 : ∀ u ∈ news, u.oneCell' = true)
    (h63 : n + m ≤ maxLen) (hbytes : (n + m) * bytes ≤ 140737488355328) (hbase : base ≤ w.heap.size)
    (h : ∀ v' w', w'.ownsRow base e size v' (n + m) (xs ++ news) → w.grownBy w' v.ownBlock → K (a.put o.dst v') w') :
    if Region.wanted o (yielded ops a.tmps) = true then Oper.wp P o a w K Q else E := by
  by_cases hm : m = 0
  · subst hm
    have hn : news = [] := List.eq_nil_of_length_eq_zero (by simpa using hl)
    subst hn
    have hw : Region.wanted o (yielded ops a.tmps) = true := by simp [Region.wanted, hgd]
    rw [if_pos hw]
    have hv : ∃ ad k, v = .slice ad n k ∧ n ≤ k := by
      rcases hown.2 with ⟨rfl, rfl⟩ | ⟨g, cap, cur, rfl, _, _, hnc, _⟩
      · exact ⟨_, _, rfl, Nat.le_refl _⟩
      · exact ⟨_, _, rfl, hnc⟩
    obtain ⟨ad, k, rfl, hk⟩ := hv
    have hrun := run_append_zero (P := P) w t o.type e i ht hi ad n k hk ao c
    have hh := h _ w (by simpa using hown) (World.grownBy.refl _ _)
    unfold Oper.wp execOp
    simp only [ho, resolve, invoke, builtin, Sem.run_bind, Sem.run_pure, Result.andThen_ok, List.map_toArray, List.map_cons, List.map_nil, hs, hx, hrun]
    exact hh
  · obtain ⟨ad, rfl, hc⟩ := hnews hm
    exact step_append_lies w hgd s x t ho base e i z size bytes ht hi hz hsize hby hzs hsz v n xs hs hown ad m c news hx hl hc h1 (by omega) h63 hbytes hbase _ rfl (fun g cap w' h2 h3 _ _ => h _ w' h2 h3)
end Go.Proofs.YtlmaopljihbdkaaGreat
namespace Go.Proofs.YtlmaopljihbdkaaGreat
open Go.RowKit
def sfL (r : Rf) : List Oj := if r.si = 0 then [] else [(2, (r.sn.length : Int), tbL [] (nbF r.sn.length))]
theorem nb_bound {n : Nat} (h : n ≤ 40) : 0 ≤ nbF n ∧ nbF n ≤ 5 := by unfold nbF; omega
theorem tb_first {n : Int} (h0 : 0 ≤ n) (h1 : n ≤ 5) : tbC [] n = 0 ∧ tbR1 [] n = tbL [] n := by
  have hm : mapF [] = 0 := by decide
  have hf : (frB []).length = 20 := by decide
  have hc : tbC [] n = 0 := by
    unfold tbC
    rw [hm, if_neg (by simp), if_neg (by omega), if_neg (by rw [hf]; omega)]
  exact ⟨hc, by unfold tbR1; rw [if_pos hc]⟩
theorem rf_words {r : Rf} (h : rfF r = 0) : r.sn.length ≤ 40 := by
  exact daF_len (rfF_iff.1 h).da
theorem ow_one11 {w : World} {B : Nat} {a s : Int} {z : Value} {xs : List Int} {t : TypeId} (ho : OwI B w z xs) (hB : B ≤ w.heap.size) :
    OwJ (fun b => B ≤ b ∧ b < w.heap.size + 1) (w.alloc (.cells #[.int .i64 a, .int .i64 s, z] t)) (.slice (some ⟨w.heap.size, 0, none⟩) 1 1) [(a, s, xs)] := by
  have bA := below_alloc w (.cells #[.int .i64 a, .int .i64 s, z] t)
  obtain ⟨b, h1, h2⟩ := ho
  refine ⟨_, 1, w.heap.size, 0, fun _ => z, fun _ => b, rfl, by simp, fun _ => ⟨rfl, ⟨hB, by omega⟩, fun o => by simp [go_sem]⟩, fun i hi => ?_⟩
  have : i = 0 := by simp at hi; omega
  subst this
  refine ⟨by simp [go_sem], by simp [go_sem], by simp [go_sem], h1.later bA, fun hn => ?_⟩
  obtain ⟨k1, k2, k3⟩ := h2 (by simpa using hn)
  dsimp only
  exact ⟨⟨k1, by omega⟩, by omega, fun o => ((bcell bA).2 _ _ k2).trans (k3 o), fun j hj _ _ => by simp at hj; omega⟩
theorem Tryz.fldTk1 (x y z : Value) (w : World) : (Instr.field 203 (.agg #[x, y, z]) 1).run Tryz.prog w = .ok y w := by
  simp [Instr.field, run_underlying Tryz.underlying203, asAgg, part, isAgg, run_underlying Tryz.underlying22]
theorem OwK.fst {B : Nat} {w : World} {u v : Value} {xs ys : List Int} (h : OwK B w u v xs ys) : OwI B w u xs := by
  obtain ⟨b1, b2, h1, h2, h3, h4, h5⟩ := h
  exact ⟨b1, h1, h3⟩
set_option maxHeartbeats 2000000 in
set_option maxRecDepth 4000 in
theorem snapFilesI {S T : Nat → Prop} {w : World} {y z : Value} (r : Rf) (hy : RdI S w y r.sn) (hz : RdJ T w z r.lg) (hl : r.sn.length ≤ 40) :
    Calls Tryz.prog 128 #[.agg #[.int .i64 r.tm, .int .i64 r.vt, .int .i64 r.si, .int .i64 r.st, y, z]] w fun e w' => ∃ v, e = .returned v ∧ Below w.heap.size w w' ∧ OwJ (fun b => w.heap.size ≤ b ∧ b < w'.heap.size) w' v (sfL r) := by
  obtain ⟨ay, cy, rfl⟩ := hy.shape
  obtain ⟨az, cz, rfl, _⟩ := hz.shape
  have BA := hide (below_alloc w (.cells #[.int .i64 r.tm, .int .i64 r.vt, .int .i64 r.si, .int .i64 r.st, .slice ay r.sn.length cy, .slice az r.lg.length cz] 33))
  obtain ⟨f0, hf0⟩ : ∃ f, sfL r = f := ⟨_, rfl⟩
  rw [hf0]
  have HF := hide hf0
  have HN := hide (nb_bound hl)
  have HTb := hide (tb_first (nb_bound hl).1 (nb_bound hl).2)
  have HFor := hide (fun W => blocksForI (r.sn.length : Int) (by omega) (by omega) W)
  clear hy hz hf0
  unfold Hid sfL at HF
  generalize r.sn.length = l at *
  generalize r.lg.length = m at *
  generalize r.tm = a at *
  generalize r.vt = b at *
  generalize r.st = d at *
  generalize r.si = c at *
  by_cases hc : c = 0
  · rw [if_pos hc] at HF
    subst hc
    subst HF
    go_enter Tryz.func128, Tryz.ntmps128
    go_wp2
    go_ret
    exact ⟨_, rfl, BA.out, OwJ_nil _ _⟩
  · rw [if_neg hc] at HF
    replace HF := hide HF
    go_enter Tryz.func128, Tryz.ntmps128
    go_wp2_with fail
    refine (HFor.out _).mono ?_
    rintro e w1 ⟨rfl, rfl⟩
    generalize nbF (l : Int) = n at *
    have HK := hide (implTakeBlocks n (S := fun _ => False) (xs := []) (u := .slice none 0 0) (w := w.alloc (.cells #[.int .i64 a, .int .i64 b, .int .i64 c, .int .i64 d, .slice ay l cy, .slice az m cz] 33)) ⟨none, 0, rfl, by simp, fun h => absurd rfl h⟩)
    rw [HTb.out.1, HTb.out.2] at HK
    go_wp2_with fail
    refine HK.out.mono ?_
    rintro e w1 ⟨u, v, rfl, hb, ho⟩
    have fK1 := Tryz.fldTk1
    have HO := hide (ow_one11 (a := 2) (s := (l : Int)) (t := 114) ho.fst hb.size)
    have BB := hide (below_on (below_on BA.out hb) (below_alloc w1 (.cells #[.int .i64 2, .int .i64 (l : Int), u] 114)))
    have hz := hb.size
    simp only [World.size_alloc] at hz
    obtain ⟨au, cu, hu⟩ := ho.fst.shape
    subst hu
    clear hb ho HK
    generalize tbL [] n = ts at *
    obtain ⟨q, hq⟩ : ∃ q, ts.length = q := ⟨_, rfl⟩
    rw [hq] at HO BB ⊢
    clear hq
    go_wp2
    go_ret
    refine ⟨_, rfl, BB.out, ?_⟩
    rw [← HF.out]
    exact HO.out.mono fun x hx => ⟨by have := hx.1; simp at this; omega, by simp; omega⟩
set_option maxHeartbeats 2000000 in
set_option maxRecDepth 4000 in
theorem l11FileP {S : Nat → Prop} {w : World} {bk : Nat} {y z : Value} (r : Rf) (hv : Var6 w bk (.int .i64 r.tm) (.int .i64 r.vt) (.int .i64 r.si) (.int .i64 r.st) y z) (hy : RdI S w y r.sn) (hl : r.sn.length ≤ 40) :
    Calls Tryz.prog 66 #[.pointer (some ⟨bk, 0, none⟩)] w fun e w' => ∃ v, e = .returned v ∧ Below w.heap.size w w' ∧ OwJ (fun b => w.heap.size ≤ b ∧ b < w'.heap.size) w' v (sfL r) := by
  obtain ⟨ay, cy, rfl⟩ := hy.shape
  obtain ⟨f0, hf0⟩ : ∃ f, sfL r = f := ⟨_, rfl⟩
  rw [hf0]
  have HF := hide hf0
  have HN := hide (nb_bound hl)
  have HFor := hide (fun W => l8For (r.sn.length : Int) (by omega) (by omega) W)
  have HV := hide hv
  clear hy hf0 hv
  unfold Hid sfL at HF
  generalize r.sn.length = l at *
  generalize r.tm = a at *
  generalize r.vt = b at *
  generalize r.st = d at *
  generalize r.si = c at *
  obtain ⟨v0, v1, v2, v3, v4, v5⟩ := HV.out
  by_cases hc : c = 0
  · rw [if_pos hc] at HF
    subst hc
    subst HF
    have BA := hide (below_alloc w (.cells #[] 114))
    go_enter Tryz.func66, Tryz.ntmps66
    go_wp2
    go_ret
    exact ⟨_, rfl, BA.out, ⟨_, 0, 0, 0, fun _ => .bool false, fun _ => 0, rfl, by simp, fun h => absurd rfl h, fun i hi => absurd hi (Nat.not_lt_zero _)⟩⟩
  · rw [if_neg hc] at HF
    replace HF := hide HF
    obtain ⟨n, hn⟩ : ∃ n : Nat, nbF (l : Int) = (n : Int) := ⟨(nbF (l : Int)).toNat, by have := HN.out.1; omega⟩
    rw [hn] at HF HFor
    have hn5 : n ≤ 5 := by have := HN.out.2; rw [hn] at this; omega
    clear hn
    have HK := hide (fun (S : Nat → Prop) (h : RdI S w (.slice none 0 0) []) => l7Take n (by omega) h)
    go_enter Tryz.func66, Tryz.ntmps66
    go_wp2_with fail
    refine (HFor.out _).mono ?_
    rintro e w1 ⟨rfl, rfl⟩
    go_wp2_with fail
    refine (HK.out (fun _ => False) ⟨none, 0, rfl, by simp, fun h => absurd rfl h⟩).mono ?_
    rintro e w1 ⟨u, v, rfl, hb, ho⟩
    have HO := hide (ow_one11 (a := 2) (s := (l : Int)) (t := 114) ho.fst hb.size)
    have BB := hide (below_on hb (below_alloc w1 (.cells #[.int .i64 2, .int .i64 (l : Int), u] 114)))
    have hz := hb.size
    obtain ⟨au, cu, hu⟩ := ho.fst.shape
    subst hu
    clear hb ho HK v0 v1 v2 v3 v4 v5
    generalize tbL [] (n : Int) = ts at *
    obtain ⟨q, hq⟩ : ∃ q, ts.length = q := ⟨_, rfl⟩
    rw [hq] at HO BB ⊢
    clear hq
    go_wp2
    go_ret
    refine ⟨_, rfl, BB.out, ?_⟩
    rw [← HF.out]
    exact HO.out.mono fun x hx => ⟨by have := hx.1; omega, by simp; omega⟩
end Go.Proofs.YtlmaopljihbdkaaGreat
namespace Go.Proofs.YtlmaopljihbdkaaGreat
open Go.RowKit
set_option maxHeartbeats 4000000 in
set_option maxRecDepth 4000 in
theorem implRaftFault {S T : Nat → Prop} {w : World} {y z : Value} (r : Rf) (hy : RdI S w y r.sn) (hz : RdJ T w z r.lg) :
    Calls Tryz.prog 35 #[.agg #[.int .i64 r.tm, .int .i64 r.vt, .int .i64 r.si, .int .i64 r.st, y, z]] w fun e w' => e = .returned (.int .i64 (rfF r)) ∧ Below w.heap.size w w' := by
  obtain ⟨ay, cy, rfl⟩ := hy.shape
  obtain ⟨az, cz, rfl, _⟩ := hz.shape
  have hym := hy.maxR
  have hlk := gon_link r
  have hrg : rgR r ↔ ((0 ≤ r.tm ∧ r.tm ≤ 999) ∧ (0 ≤ r.vt ∧ r.vt ≤ 9)) ∧ (0 ≤ r.si ∧ r.si ≤ 9999) ∧ 0 ≤ r.st ∧ r.st ≤ r.tm := Iff.rfl
  have hfm : fmR r ↔ ((r.si = 0 ↔ r.st = 0) ∧ (r.si = 0 → r.sn.length = 0)) := by unfold fmR; simp only [List.length_eq_zero_iff]
  have HF := hide (@rfF_range r)
  have HF1 := hide (@rfF_data r)
  have HF2 := hide (@rfF_form r)
  have HF3 := hide (@rfF_log r)
  have HF4 := hide (@rfF_link r)
  have HF5 := hide (@rfF_ok r)
  obtain ⟨Z, hZ⟩ : ∃ Z, rfF r = Z := ⟨_, rfl⟩
  rw [hZ] at HF HF1 HF2 HF3 HF4 HF5 ⊢
  have H3 := hide (fun (w' : World) (hb : Below w.heap.size w w') => snapFaultI (hy.later hb))
  have H5 := hide (fun (w' : World) (hb : Below w.heap.size w w') => implLogFault (hz.later hb))
  have H6 := hide (fun (w' : World) (hb : Below w.heap.size w w') (h : logF r.lg = 0) => goesOnB r.si r.st r.tm (hz.later hb) (fun hne => (entF_zero ((logF_iff.1 h).2.1 0 (List.length_pos_iff.2 hne))).1.1))
  have HRG := hide hrg
  have HFM := hide hfm
  have HLK := hide hlk
  obtain ⟨l, hl⟩ : ∃ l, r.sn.length = l := ⟨_, rfl⟩
  obtain ⟨m, hm⟩ : ∃ m, r.lg.length = m := ⟨_, rfl⟩
  rw [hl] at H3 HFM hym ⊢
  rw [hm] at H5 H6 ⊢
  obtain ⟨D, hD⟩ : ∃ D, daF r.sn = D := ⟨_, rfl⟩
  obtain ⟨G, hG⟩ : ∃ G, logF r.lg = G := ⟨_, rfl⟩
  rw [hD] at H3 HF1 HF2 HF3 HF4 HF5
  rw [hG] at H5 H6 HF3 HF4 HF5
  clear hy hz hlk hrg hfm hZ hl hm hD hG
  generalize r.tm = a at *
  generalize r.vt = b at *
  generalize r.si = c at *
  generalize r.st = d at *
  have H1 := hide (isHardB a b)
  have H2 := hide (isSnapRangeB a b c d ay az l m cy cz)
  have H4 := hide (isSnapWholeB a b c d ay az l m cy cz hym)
  obtain ⟨B1, hB1⟩ : ∃ B, decide ((0 ≤ a ∧ a ≤ 999) ∧ (0 ≤ b ∧ b ≤ 9)) = B := ⟨_, rfl⟩
  obtain ⟨B2, hB2⟩ : ∃ B, decide ((0 ≤ c ∧ c ≤ 9999) ∧ 0 ≤ d ∧ d ≤ a) = B := ⟨_, rfl⟩
  obtain ⟨B4, hB4⟩ : ∃ B, decide ((c = 0 ↔ d = 0) ∧ (c = 0 → l = 0)) = B := ⟨_, rfl⟩
  obtain ⟨B6, hB6⟩ : ∃ B, decide (gon r.lg c d a) = B := ⟨_, rfl⟩
  rw [hB1] at H1
  rw [hB2] at H2
  rw [hB4] at H4
  rw [hB6] at H6
  have K1 := hide hB1
  have K2 := hide hB2
  have K4 := hide hB4
  have K6 := hide hB6
  clear hB1 hB2 hB4 hB6
  have BA := hide (below_alloc w (.cells #[.int .i64 a, .int .i64 b, .int .i64 c, .int .i64 d, .slice ay l cy, .slice az m cz] 33))
  have VA := hide (Var6_new w (.int .i64 a) (.int .i64 b) (.int .i64 c) (.int .i64 d) (.slice ay l cy) (.slice az m cz) 33)
  go_enter Tryz.func35, Tryz.ntmps35
  go_wp2_with fail
  refine (H1.out _).mono ?_
  rintro e w1 ⟨rfl, hw1⟩
  have hw1 := hw1.symm
  subst hw1
  cases B1
  · have HZ : Hid ((3 : Int) = Z) := (HF.out (fun h => by have := of_decide_eq_false K1.out; exact this (HRG.out.1 h).1)).symm
    go_wp2
    go_ret
    exact ⟨ret_int HZ.out, BA.out⟩
  · go_wp2_with fail
    refine (H2.out _).mono ?_
    rintro e w2 ⟨rfl, hb⟩
    have BA2 := hide (below_on BA.out hb)
    have VA2 := hide (VA.out.later hb)
    clear hb
    cases B2
    · have HZ : Hid ((3 : Int) = Z) := (HF.out (fun h => by have := of_decide_eq_false K2.out; exact this (HRG.out.1 h).2)).symm
      go_wp2
      go_ret
      exact ⟨ret_int HZ.out, BA2.out⟩
    · have KR : Hid (rgR r) := HRG.out.2 ⟨of_decide_eq_true K1.out, of_decide_eq_true K2.out⟩
      obtain ⟨c0, c1, c2, c3, c4, c5⟩ := VA2.out
      go_wp2_with fail
      refine (H3.out _ BA2.out).mono ?_
      rintro e w3 ⟨rfl, q, rfl⟩
      by_cases hD : D = 0
      · subst hD
        go_wp2_with fail
        refine (H4.out _).mono ?_
        rintro e w4 ⟨rfl, hb⟩
        have BA4 := hide (below_on (below_on BA2.out (below_drewN _ q)) hb)
        have VA4 := hide ((VA2.out.later (below_drewN _ q)).later hb)
        clear hb c0 c1 c2 c3 c4 c5
        cases B4
        · have HZ : Hid ((1 : Int) = Z) := (HF2.out KR.out (by first | trivial | rfl) (fun h => by have := of_decide_eq_false K4.out; exact this (HFM.out.1 h))).symm
          go_wp2
          go_ret
          exact ⟨ret_int HZ.out, BA4.out⟩
        · have KF : Hid (fmR r) := HFM.out.2 (of_decide_eq_true K4.out)
          obtain ⟨c0, c1, c2, c3, c4, c5⟩ := VA4.out
          go_wp2_with fail
          refine (H5.out _ BA4.out).mono ?_
          rintro e w5 ⟨rfl, hb⟩
          have BA5 := hide (below_on BA4.out hb)
          have VA5 := hide (VA4.out.later hb)
          clear hb c0 c1 c2 c3 c4 c5
          by_cases hG : G = 0
          · subst hG
            obtain ⟨c0, c1, c2, c3, c4, c5⟩ := VA5.out
            go_wp2_with fail
            refine (H6.out _ BA5.out (by first | trivial | rfl)).mono ?_
            rintro e w6 ⟨rfl, hb⟩
            have BA6 := hide (below_on BA5.out hb)
            clear hb c0 c1 c2 c3 c4 c5
            cases B6
            · have HZ : Hid ((1 : Int) = Z) := (HF4.out KR.out (by first | trivial | rfl) KF.out (by first | trivial | rfl) (fun h => by have := of_decide_eq_false K6.out; exact this (HLK.out.2 h))).symm
              go_wp2
              go_ret
              exact ⟨ret_int HZ.out, BA6.out⟩
            · have HZ : Hid ((0 : Int) = Z) := (HF5.out KR.out (by first | trivial | rfl) KF.out (by first | trivial | rfl) (HLK.out.1 (of_decide_eq_true K6.out))).symm
              go_wp2
              go_ret
              exact ⟨ret_int HZ.out, BA6.out⟩
          · have HZ : Hid (G = Z) := (HF3.out KR.out (by first | trivial | rfl) KF.out hG).symm
            have hG' : (G == 0) = false := by simpa using hG
            go_wp2
            go_ret
            exact ⟨ret_int HZ.out, BA5.out⟩
      · have HZ : Hid (D = Z) := (HF1.out KR.out hD).symm
        have hD' : (D == 0) = false := by simpa using hD
        go_wp2
        go_ret
        exact ⟨ret_int HZ.out, below_on BA2.out (below_drewN _ q)⟩
end Go.Proofs.YtlmaopljihbdkaaGreat
namespace Go.Proofs.YtlmaopljihbdkaaGreat
open Go.RowKit
end Go.Proofs.YtlmaopljihbdkaaGreat
