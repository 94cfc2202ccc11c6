/- Built4 RowsW Zero Obj3 En5b Spec2b Flt Cells Impl2b Cr1 Cr2 Er Er2 Rt Rt2 Sh1 in one text: what each says stands at its head below. -/
import Derived.Test.YtlmaopljihbdkaaGreatG15
import Derived.Deep.RegionLaw
import Derived.Test.YtlmaopljihbdkaaGreatG11
import Derived.Test.YtlmaopljihbdkaaGreatG19
import Derived.Test.YtlmaopljihbdkaaGreatG12
import Derived.Laws.CopyOwn
import Derived.Test.YtlmaopljihbdkaaGreatG18
import Derived.Test.YtlmaopljihbdkaaGreatG04
import Derived.Test.YtlmaopljihbdkaaGreatG01
import Derived.Deep.MidRow
import Derived.Deep.CutRange
import Derived.Test.YtlmaopljihbdkaaGreatG08
import Derived.Test.YtlmaopljihbdkaaGreatG07
import Derived.Deep.RegionHeld3
import Derived.Test.YtlmaopljihbdkaaGreatG10
import Derived.LaidEql
import Derived.Stop.Asserts
import Derived.RowKitTokens
import Derived.Test.YtlmaopljihbdkaaGreatG16
namespace Go.Proofs.YtlmaopljihbdkaaGreat
open Go.RowKit
theorem Inner.set {P : Nat → Prop} {w : World} {row : Option Nat} {k : Nat} {V : Nat → Value} {Bk : Nat → Nat} {X : Nat → List Int} (h : Inner P w row k V Bk X) {r o : Nat} {x : Value} (hr : ∀ b, P b → b ≠ r) : Inner P (w.setCell ⟨r, o, none⟩ x) row k V Bk X := by
  refine ⟨fun i hi => (h.rd i hi).setOther fun hn => hr _ (h.own i hi hn).1, fun i hi hn => ?_⟩
  obtain ⟨h1, h2, h3, h4, h5⟩ := h.own i hi hn
  exact ⟨h1, by simpa using h2, fun o => by rw [World.frozen?_setCell]; exact h3 o, h4, h5⟩
theorem ownsRow_set {w : World} {B e s r o : Nat} {v x : Value} {n : Nat} {xs : List Value} (h : w.ownsRow B e s v n xs) (hr : v.ownBlock ≠ some r) : (w.setCell ⟨r, o, none⟩ x).ownsRow B e s v n xs := by
  obtain ⟨h1, h2⟩ := h
  refine ⟨h1, ?_⟩
  rcases h2 with h2 | ⟨g, cap, cur, rfl, hg, hh, t⟩
  · exact Or.inl h2
  · exact Or.inr ⟨g, cap, cur, rfl, hg, by rw [Below.heap_setCell _ _ _ _ (fun e => hr (congrArg some e))]; exact hh, t⟩
theorem BuiltP.set {P : Nat → Prop} {w : World} {v : Value} {k : Nat} {ps : List (Int × List Int)} (h : BuiltP P w v k ps) {r o : Nat} {x : Value} (hr : ∀ b, P b → b ≠ r) : BuiltP P (w.setCell ⟨r, o, none⟩ x) v k ps := by
  obtain ⟨V, Bk, h1, h2, h3⟩ := h
  exact ⟨V, Bk, ownsRow_set h1 (fun e => hr _ (h2 _ e) rfl), h2, h3.set hr⟩
theorem BuiltP.below {P : Nat → Prop} {w w' : World} {v : Value} {k B : Nat} {ps : List (Int × List Int)} (h : BuiltP P w v k ps) (hb : Below B w w') (hP : ∀ b, P b → b < B) : BuiltP P w' v k ps := by
  obtain ⟨V, Bk, h1, h2, h3⟩ := h
  refine ⟨V, Bk, ?_, h2, fun i hi => ?_, fun i hi hn => ?_⟩
  · obtain ⟨k1, k2⟩ := h1
    refine ⟨k1, ?_⟩
    rcases k2 with k2 | ⟨g, cap, cur, rfl, hg, hh, t⟩
    · exact Or.inl k2
    · exact Or.inr ⟨g, cap, cur, rfl, hg, by rw [hb.block g (hP g (h2 g rfl))]; exact hh, t⟩
  · obtain ⟨ao, c, e1, e2, e3⟩ := h3.rd i hi
    refine ⟨ao, c, e1, e2, fun hne => ?_⟩
    obtain ⟨b, off, f1, f2, f3⟩ := e3 hne
    refine ⟨b, off, f1, f2, fun t ht => ?_⟩
    rw [hb.cell (p := ⟨b, off + t, none⟩) (by rw [f2]; exact hP _ (h3.own i hi hne).1)]
    exact f3 t ht
  · obtain ⟨q1, q2, q3, q4, q5⟩ := h3.own i hi hn
    exact ⟨q1, Nat.lt_of_lt_of_le q2 hb.size, fun o => (hb.frozen (p := ⟨Bk i, o, none⟩) (hP _ q1)).trans (q3 o), q4, q5⟩
end Go.Proofs.YtlmaopljihbdkaaGreat
namespace Go.Proofs.YtlmaopljihbdkaaGreat
open Go.RowKit
end Go.Proofs.YtlmaopljihbdkaaGreat
namespace Go.Proofs.YtlmaopljihbdkaaGreat
open Go.RowKit
theorem wordsF_zero {xs : List Int} (h : wordsF xs = 0) : xs.length ≤ 64 ∧ ∀ i, i < xs.length → 0 ≤ xs.getD i 0 ∧ xs.getD i 0 ≤ 65535 := by
  unfold wordsF wF at h
  split at h
  · exact absurd h (by decide)
  · rename_i h1
    split at h
    · rename_i h2
      exact ⟨by omega, h2⟩
    · exact absurd h (by decide)
end Go.Proofs.YtlmaopljihbdkaaGreat
namespace Go.Proofs.YtlmaopljihbdkaaGreat
open Go.RowKit
theorem made_rep (n : Nat) : madeCells #[Value.int .i64 0] n = (List.replicate n (Value.int .i64 0)).toArray := by
  apply Array.ext'
  rw [List.toList_toArray, List.eq_replicate_iff]
  refine ⟨by simp [madeCells], fun b hb => ?_⟩
  simp [madeCells] at hb
  obtain ⟨i, _, rfl⟩ := hb
  simp [Nat.mod_one]
def readL (xs : List Int) (f n : Nat) : List Int := (List.range n).map fun i => xs.getD (f + i) 0
theorem splice_read (xs : List Int) (f n : Nat) : splice (List.replicate n (Value.int .i64 0)) 0 (((xs.drop f).take n).map (Value.int .i64)) = (readL xs f n).map (Value.int .i64) := by
  unfold splice readL
  apply List.ext_getElem?
  intro i
  simp only [List.take_zero, List.nil_append, Nat.zero_add, List.length_map, List.map_map]
  by_cases hi : i < n
  · by_cases hl : i < ((xs.drop f).take n).length
    · have hl' : i < n ∧ i < xs.length - f := by simpa [List.length_take, Nat.lt_min] using hl
      rw [List.getElem?_append_left (by simpa using hl)]
      simp [hi, List.getD, List.getElem?_drop, List.getElem?_eq_getElem (show f + i < xs.length by omega)]
    · have hl' : xs.length ≤ f + i := by
        simp [List.length_take, Nat.lt_min] at hl
        omega
      rw [List.getElem?_append_right (by simpa using hl)]
      simp [hi, List.getD, List.getElem?_eq_none hl', List.getElem?_replicate]
      simp [List.length_take] at hl
      omega
  · rw [List.getElem?_eq_none (by simp [List.length_take]; omega), List.getElem?_eq_none (by simp; omega)]
end Go.Proofs.YtlmaopljihbdkaaGreat
namespace Go.Proofs.YtlmaopljihbdkaaGreat
open Go.RowKit
theorem catchP (r : Nat) (x y : Value) (u : TypeId) (pv : Value) (older : List PanicEntry) (w : World) (c0 : w.cell? ⟨r, 0, none⟩ = some x) (c1 : w.cell? ⟨r, 1, none⟩ = some y) (f0 : w.frozen? ⟨r, 0, none⟩ = false) (f1 : w.frozen? ⟨r, 1, none⟩ = false) :
    CallsD Tryz.prog 143 #[.pointer (some ⟨r, 0, none⟩)] (.panicking ({ v := .iface u pv, recovered := false } :: older)) w fun e u' w' =>
      e = .returned (.tuple #[]) ∧ u' = .panicking ({ v := .iface u pv, recovered := true } :: older) ∧ w' = (w.setCell ⟨r, 0, none⟩ (.int .i64 5)).setCell ⟨r, 1, none⟩ (.slice none 0 0) := by
  refine callsD_of_wpS Tryz.func143 rfl fun c₀ cs hu => ?_
  apply wpS_seq
  apply wpS_region
  simp [wpOpsS, go_sem, recoverD, hu, Tryz.ntmps143, Exit.thenS]
  refine wpS_cond (t := true) (by simp [Act.eval, Array.replicate]) ?_
  simp only [if_true]
  apply wpS_region
  simp [wpOpsS, go_sem, c0, c1, f0, f1, bodyPostS, results, Tryz.results143]
theorem catchI (r : Nat) (w : World) :
    CallsD Tryz.prog 143 #[.pointer (some ⟨r, 0, none⟩)] .returning w fun e u' w' => e = .returned (.tuple #[]) ∧ u' = .returning ∧ w' = w := by
  refine callsD_of_wpS Tryz.func143 rfl fun c₀ cs hu => ?_
  apply wpS_seq
  apply wpS_region
  simp [wpOpsS, go_sem, recoverD, hu, Tryz.ntmps143, Exit.thenS]
  refine wpS_cond (t := false) (by simp [Act.eval, Array.replicate]) ?_
  simp only [Bool.false_eq_true, if_false]
  refine wpS_of_wp (wp_skip ?_)
  cases c₀
  simp_all [bodyPostS, results, Tryz.results143]
theorem OwJ_made {lo : Nat} {w3 : World} {p : Oj} {z : Value} (T : TypeId) (hz : OwI lo w3 z p.2.2) (hlo : lo ≤ w3.heap.size) :
    OwJ (fun b => lo ≤ b ∧ b < w3.heap.size + 1) (w3.alloc (.cells #[.int .i64 p.1, .int .i64 p.2.1, z] T)) (.slice (some ⟨w3.heap.size, 0, none⟩) 1 1) [p] := by
  obtain ⟨b, h1, h2⟩ := hz
  refine ⟨_, 1, w3.heap.size, 0, fun _ => z, fun _ => b, rfl, by simp, fun _ => ⟨rfl, ⟨hlo, Nat.lt_succ_self _⟩, fun o => by simp [go_sem]⟩, fun i hi => ?_⟩
  have e : i = 0 := by simpa using hi
  subst e
  refine ⟨by simp [go_sem], by simp [go_sem], by simp [go_sem], h1.later (below_alloc _ _), fun hn => ?_⟩
  obtain ⟨k1, k2, k3⟩ := h2 hn
  exact ⟨⟨k1, Nat.lt_succ_of_lt k2⟩, Nat.ne_of_lt k2, fun o => ((bcell (below_alloc _ _)).2 _ _ k2).trans (k3 o), fun j hj _ _ => by simpa using hj⟩
set_option maxHeartbeats 4000000 in
set_option maxRecDepth 4000 in
theorem implUnpackEntry {S : Nat → Prop} {w : World} {v : Value} {xs : List Int} (hv : RdI S w v xs) :
    Calls Tryz.prog 100 #[v] w (EndsEn (ueC xs) (ueR xs) w) := by
  have hmf : ∀ (fn : Fn) (first cap : Array Value) (w : World), (Instr.makeFunc fn first cap).run Tryz.prog w = .ok (.func fn first cap) w := fun _ _ _ _ => rfl
  obtain ⟨ao, c, rfl⟩ := hv.shape
  have HV := hide hv
  clear hv
  unfold ueC ueR
  obtain ⟨z, hz⟩ : ∃ z, wordsF xs = z := ⟨_, rfl⟩
  have HZ := hide hz
  rw [hz]
  clear hz
  obtain ⟨n, hn⟩ : ∃ n, xs.length = n := ⟨_, rfl⟩
  have HN := hide hn
  rw [hn] at HV ⊢
  clear hn
  have HC := hide (wordsFault (HV.out.later (below_alloc w (.cells #[.int .i64 0, .slice none 0 0] 145))))
  rw [HZ.out] at HC
  by_cases h0 : z = 0
  · subst h0
    have hm64 : n ≤ 64 := by have := words_len HZ.out; rw [HN.out] at this; exact this
    by_cases hB : enB xs
    · rw [if_pos rfl, if_pos hB, if_pos ⟨rfl, hB⟩]
      obtain ⟨p, hp⟩ : ∃ p, enO xs = p := ⟨_, rfl⟩
      have HP := hide hp
      rw [hp]
      clear hp
      have HB := hide hB
      clear hB
      obtain ⟨a, t, ys⟩ := p
      obtain ⟨l, hl⟩ : ∃ l, ys.length = l := ⟨_, rfl⟩
      have HL := hide hl
      clear hl
      go_enter_defers Tryz.func100, Tryz.ntmps100
      go_wp2_with fail
      refine HC.out.mono ?_
      rintro e w1 ⟨rfl, q, rfl⟩
      have HRs := hide ((ResF.start w 145).later (below_drewN _ q))
      have HEn := hide (entryIn (HV.out.later HRs.out.below) (by rw [HN.out]; exact hm64))
      have hsz1 : ((w.alloc (.cells #[.int .i64 0, .slice none 0 0] 145)).drewN q).heap.size = w.heap.size + 1 := by simp
      have HSz := hide hsz1
      clear hsz1
      go_wp2_with fail
      refine HEn.out.mono ?_
      rintro e w2 ⟨hb, ⟨_, z, rfl, ho⟩ | ⟨hB, _⟩⟩
      · rw [HP.out] at ho ⊢
        dsimp only at ho ⊢
        obtain ⟨az, cz, hz⟩ := ho.shape
        rw [HL.out] at hz
        subst hz
        have HRs2 := hide (HRs.out.later hb)
        have hs2 := hb.size
        rw [HSz.out] at ho hs2
        have HOj := hide (OwJ_made (p := (a, t, ys)) 110 ho (by omega))
        have bA := below_alloc w2 (.cells #[.int .i64 a, .int .i64 t, .slice az l cz] 110)
        have HRs3 := hide (HRs2.out.later bA)
        have HFn := hide (ret_entries (x := .int .i64 0) (r := w.heap.size) HRs3.out.below (Nat.le_refl _) HOj.out (fun b hb => ⟨by have := hb.1; omega, by have := hb.2; simp; omega⟩))
        have r0 := HRs2.out.c0
        have r1 := HRs2.out.c1
        have f0 := HRs2.out.fr 0
        have f1 := HRs2.out.fr 1
        have hlt := HRs2.out.lt
        have hlt' : w.heap.size < (w2.setCell ⟨w.heap.size, 0, none⟩ (.int .i64 0)).heap.size := by simpa using hlt
        rw [World.setCell_alloc_past _ _ _ _ hlt, World.setCell_alloc_past _ _ _ _ hlt'] at HFn
        clear hb ho bA HRs3 HOj hlt'
        go_wp2
        refine leaves_cons (f := 143) (args := #[.pointer (some ⟨w.heap.size, 0, none⟩)]) (by simp) (by simp [go_sem]) ?_
        refine (catchI w.heap.size _).mono ?_
        rintro e u' w'' ⟨rfl, rfl, rfl⟩
        exact ⟨.agg #[.int .i64 0, .slice (some ⟨w2.heap.size, 0, none⟩) 1 1], by simp [results, Tryz.results100, go_sem, r0, r1, hlt], _, rfl, HFn.out.1, HFn.out.2⟩
      · exact absurd HB.out hB
    · rw [if_pos rfl, if_neg hB, if_neg (fun h => hB h.2)]
      have HB := hide hB
      clear hB
      go_enter_defers Tryz.func100, Tryz.ntmps100
      go_wp2_with fail
      refine HC.out.mono ?_
      rintro e w1 ⟨rfl, q, rfl⟩
      have HRs := hide ((ResF.start w 145).later (below_drewN _ q))
      have HEn := hide (entryIn (HV.out.later HRs.out.below) (by rw [HN.out]; exact hm64))
      go_wp2_with fail
      refine HEn.out.mono ?_
      rintro e w2 ⟨hb, ⟨hB, _⟩ | ⟨_, pv, rfl⟩⟩
      · exact absurd hB HB.out
      · have HRs2 := hide (HRs.out.later hb)
        clear hb
        go_wp2
        refine leaves_cons (f := 143) (args := #[.pointer (some ⟨w.heap.size, 0, none⟩)]) (by simp) (by simp [go_sem]) ?_
        refine (catchP w.heap.size _ _ _ pv [] _ HRs2.out.c0 HRs2.out.c1 (HRs2.out.fr 0) (HRs2.out.fr 1)).mono ?_
        rintro e u' w'' ⟨rfl, rfl, rfl⟩
        have r0 := HRs2.out.c0
        have r1 := HRs2.out.c1
        exact ⟨.agg #[.int .i64 5, .slice none 0 0], by simp [results, Tryz.results100, go_sem, r0, r1], _, rfl, HRs2.out.shut _ _, OwJ_nil _ _⟩
  · rw [if_neg h0, if_neg (fun h => h0 h.1)]
    have h0b : (z == 0) = false := by simpa using h0
    go_enter_defers Tryz.func100, Tryz.ntmps100
    go_wp2_with fail
    refine HC.out.mono ?_
    rintro e w1 ⟨rfl, q, rfl⟩
    have HRs := hide ((ResF.start w 145).later (below_drewN _ q))
    go_wp2
    exact ⟨.agg #[.int .i64 z, .slice none 0 0], by simp [results, Tryz.results100, go_sem], _, rfl, HRs.out.shut _ _, OwJ_nil _ _⟩
end Go.Proofs.YtlmaopljihbdkaaGreat
namespace Go.Proofs.YtlmaopljihbdkaaGreat
open Go.RowKit
theorem step_append_any {P : Program} (w : World) {ops : Array Oper} {o : Oper} {a : Act} {K : Act → World → Prop} {Q : Exit → Act → World → Prop} {E : Prop} (hgd : o.guard = none) (s x : Operand) (t : TypeId)
    (ho : o.op = .call { callee := .builtin .append, args := #[s, x], argTypes := #[t, t] })
    (base : Nat) (e : TypeId) (i : TypeInfo) (z : Value) (size bytes : Nat) (ht : P.underlying t = some (.slice e)) (hi : P.info? e = some i) (hz : i.zero = some z)
    (hsize : i.size = size) (hby : i.bytes = bytes) (hzs : z.cells.size = size) (hsz : 0 < size)
    (v : Value) (n : Nat) (xs : List Value) (hs : a.eval s = v) (hown : w.ownsRow base e size v n xs)
    (ao : Option Addr) (m c : Nat) (news : List Value) (hx : a.eval x = .slice ao m c) (hl : news.length = m * size)
    (hnews : m ≠ 0 → ∃ ad, ao = some ad ∧ ∀ j u, news[j]? = some u → w.cell? (ad.add j) = some u) (h1 : ∀ u ∈ news, u.oneCell' = true)
    (h63 : n + m ≤ maxLen) (hbytes : (n + m) * bytes ≤ 140737488355328) (hbase : base ≤ w.heap.size)
    (h : ∀ v' w', w'.ownsRow base e size v' (n + m) (xs ++ news) → w.grownBy w' v.ownBlock → K (a.put o.dst v') w') : if Region.wanted o (yielded ops a.tmps) = true then Oper.wp P o a w K Q else E := by
  have hw : Region.wanted o (yielded ops a.tmps) = true := by simp [Region.wanted, hgd]
  rw [if_pos hw]
  by_cases hm : m = 0
  · subst hm
    have hn : news = [] := List.eq_nil_of_length_eq_zero (by simpa using hl)
    subst hn
    have hv : ∃ ad k, v = .slice ad n k ∧ n ≤ k := by
      rcases hown.2 with ⟨rfl, rfl⟩ | ⟨g, cap, cur, rfl, _, _, hnc, _⟩
      · exact ⟨_, _, rfl, Nat.le_refl _⟩
      · exact ⟨_, _, rfl, hnc⟩
    obtain ⟨ad, k, rfl, hk⟩ := hv
    have hrun := run_append_zero (P := P) w t o.type e i ht hi ad n k hk ao c
    unfold Oper.wp
    simp [execOp, ho, resolve, invoke, builtin, hs, hx, hrun, Result.andThen]
    exact h _ w (by simpa using hown) (World.grownBy.refl _ _)
  · obtain ⟨ad, rfl, hc⟩ := hnews hm
    exact wp_append_own (P := P) w s x t ho base e i z size bytes ht hi hz hsize hby hzs hsz v n xs hs hown ad m c news hx hl hc h1 h63 hbytes hbase (fun v' w' k1 k2 _ => h v' w' k1 k2)
theorem ownsRow_full (w : World) (cs : List Value) (e : TypeId) (hm : cs.length ≤ 1048576) : (w.alloc (.cells cs.toArray e)).ownsRow w.heap.size e 1 (.slice (some ⟨w.heap.size, 0, none⟩) cs.length cs.length) cs.length cs :=
  ⟨by simp, .inr ⟨w.heap.size, cs.length, cs.toArray, rfl, Nat.le_refl _, heap_alloc_new w _, Nat.le_refl _, by unfold maxLen; omega, by simp, by simp⟩⟩
def packH (s t : Int) (xs : List Int) : List Int := [s, t, (xs.length : Int)] ++ xs ++ List.replicate (29 - xs.length) 0
def packL (s t : Int) (xs : List Int) : List Int := packH s t xs ++ packH s t xs
theorem packH_len {s t : Int} {xs : List Int} (h : xs.length ≤ 29) : (packH s t xs).length = 32 := by simp [packH]; omega
theorem packL_len {s t : Int} {xs : List Int} (h : xs.length ≤ 29) : (packL s t xs).length = 64 := by simp [packL, packH_len h]
set_option maxHeartbeats 4000000 in
set_option maxRecDepth 4000 in
theorem l2Pack {S : Nat → Prop} {w : World} {b o : Nat} {s t : Int} {y : Value} {xs : List Int} (hd : HdAt w b o s t y) (hy : RdI S w y xs) (hl : xs.length ≤ 29) :
    Calls Tryz.prog 238 #[.pointer (some ⟨b, o, none⟩)] w fun e w' => ∃ z, e = .returned z ∧ Below w.heap.size w w' ∧ OwI w.heap.size w' z (packL s t xs) := by
  have HY := hide hy
  obtain ⟨ay, cy, hsh, hsrc⟩ := hy.src
  subst hsh
  obtain ⟨i0, hi, hz0, hz1, hz2⟩ := info_parts Tryz.infoInt
  obtain ⟨n, hn⟩ : ∃ n, xs.length = n := ⟨_, rfl⟩
  have HN := hide hn
  rw [hn] at hd hl
  rw [hn] at hsrc
  have HSr := hide hsrc
  have c0 := hd.seq
  have c1 := hd.start
  have c2 := hd.addrs
  have hbl := World.block_lt_of_cell? _ _ c0
  clear hy hd hn hsrc
  go_enter Tryz.func238, Tryz.ntmps238
  go_wp2_with fail
  have BA := below_on (below_alloc w (.cells #[.int .i64 s, .int .i64 t, .int .i64 (n : Int)] 2)) (below_drewN _ 1)
  have OF := hide (ownsRow_full w [.int .i64 s, .int .i64 t, .int .i64 (n : Int)] 2 (by simp))
  have d0 := cell_later BA c0
  have d1 := cell_later BA c1
  have d2 := cell_later BA c2
  have HSr2 : Hid (n ≠ 0 → ∃ ad, ay = some ad ∧ ∀ j u, (xs.map (Value.int .i64))[j]? = some u → ((w.alloc (.cells #[.int .i64 s, .int .i64 t, .int .i64 (n : Int)] 2)).drewN 1).cell? (ad.add j) = some u) := fun hne => by obtain ⟨ad, e, hc⟩ := HSr.out hne; exact ⟨ad, e, fun j u hu => cell_later BA (hc j u hu)⟩
  go_region_held3 (fun w' => w'.cell? ⟨b, o, none⟩ = some (.int .i64 s) ∧ w'.cell? ⟨b, o + 1, none⟩ = some (.int .i64 t) ∧ w'.cell? ⟨b, o + 2, none⟩ = some (.slice ay n cy)) (first | exact ⟨c0, c1, c2⟩ | exact ⟨d0, d1, d2⟩ | exact ⟨s0, s1, s2⟩)
    (first | (refine step_append_any _ (by rfl) _ _ _ (by rfl) w.heap.size 2 i0 (.int .i64 0) 1 8 Tryz.underlying22 hi hz0 hz1 hz2 rfl (by omega) (.slice (some ⟨w.heap.size, 0, none⟩) 3 3) 3 [.int .i64 s, .int .i64 t, .int .i64 (n : Int)] (by rfl) OF.out ay n cy (xs.map (Value.int .i64)) (by rfl) (by simp [HN.out]) HSr2.out (ints_oneCell _ _) (by unfold maxLen; omega) (by omega) (by simp) ?_; intro v3 w3 hown hgrow; have s0 := (hgrow.cell_far ⟨b, o, none⟩ (by simp; omega) (fun e => by simp [Value.ownBlock] at e; omega)).trans d0; have s1 := (hgrow.cell_far ⟨b, o + 1, none⟩ (by simp; omega) (fun e => by simp [Value.ownBlock] at e; omega)).trans d1; have s2 := (hgrow.cell_far ⟨b, o + 2, none⟩ (by simp; omega) (fun e => by simp [Value.ownBlock] at e; omega)).trans d2))
  obtain ⟨ao3, c3, rfl⟩ := ownsRow_shape hown
  have O3 : Hid (w3.ownsRow w.heap.size 2 1 (.slice ao3 (3 + n) c3) (3 + n) ((([s, t, (n : Int)] ++ xs) ++ List.replicate 0 0).map (Value.int .i64))) := by
    have := hown
    simpa [Hid] using this
  have B3 := hide (BA.grown hgrow (by simp) (fun r hr => by simp [Value.ownBlock] at hr; omega))
  clear hown hgrow s0 s1 s2 d0 d1 d2 c0 c1 c2 OF BA HSr HSr2 HY
  obtain ⟨A, hA⟩ : ∃ A, [s, t, (n : Int)] ++ xs = A := ⟨_, rfl⟩
  have HAl : Hid (A.length = 3 + n) := by unfold Hid; rw [← hA]; simp [HN.out]; omega
  have HAe : Hid (packH s t xs = A ++ List.replicate (29 - n) 0) := by unfold Hid packH; rw [← hA, HN.out]
  rw [hA] at O3
  clear hA
  go_wp2
  go_loopw [3] (fun v wr => ∃ (j : Nat) (ao : Option Addr) (c : Nat), 3 + n + j ≤ 32 ∧ v = .slice ao (3 + n + j) c ∧ Hid (wr.ownsRow w.heap.size 2 1 (.slice ao (3 + n + j) c) (3 + n + j) ((A ++ List.replicate j 0).map (Value.int .i64))) ∧ Hid (Below w.heap.size w wr)) (fun v _ => 32 - sliceLen v)
  case atStart => exact ⟨0, ao3, c3, by omega, rfl, O3.out, B3.out⟩
  case round =>
    obtain ⟨j, ao, c, hj, rfl, HO2, HB⟩ := hrel
    have hz := HB.out.size
    by_cases hlt : 3 + n + j < 32
    · go_wp2_with (at_builtin; refine wpList_append_lies _ rfl _ _ _ rfl w.heap.size 2 i0 (.int .i64 0) 1 8 Tryz.underlying22 hi hz0 hz1 hz2 rfl (by omega) _ (3 + n + j) _ (by rfl) (HO2.out.alloc _) ⟨wr.heap.size, 0, none⟩ 1 1 [.int .i64 0] (by rfl) (by rfl) (World.news_of_block (cs := #[.int .i64 0]) (t := 2) (fr := (0, 0)) (heap_alloc_new wr _)) (by simp [Value.oneCell']) (by omega) (by unfold maxLen; omega) (by omega) (by simp; omega) (wr.heap.size + 1) (by simp) ?_)
      intro g cap w5 hown hgrow hat hlt3
      have HO3 : Hid (w5.ownsRow w.heap.size 2 1 (.slice (some ⟨g, 0, none⟩) (3 + n + (j + 1)) cap) (3 + n + (j + 1)) ((A ++ List.replicate (j + 1) 0).map (Value.int .i64))) := by rw [Hid, snoc_zero]; exact hown
      have HG3 := hide ((HB.out.trans ((below_alloc wr (.cells #[.int .i64 0] 2)).mono (by omega))).grown hgrow (by simp; omega) (fun r hr => (HO2.out.lt r hr).1))
      clear hown hgrow hat hlt3
      go_wp2
      go_roundw
      case rel => exact ⟨j + 1, _, _, by omega, rfl, HO3.out, HG3.out⟩
      case measure => simp [sliceLen]; omega
    · have hj2 : j = 29 - n := by omega
      have HP : Hid (A ++ List.replicate j 0 = packH s t xs) := by unfold Hid; rw [HAe.out, hj2]
      have HPl : Hid ((packH s t xs).length = 3 + n + j) := by unfold Hid; rw [packH_len (by rw [HN.out]; exact hl)]; omega
      have HO4 : Hid (OwI w.heap.size wr (.slice ao (3 + n + j) c) (packH s t xs)) := ow_of_owns HPl.out (by rw [← HP.out]; exact HO2.out) (by rw [HPl.out]; omega)
      have hj32 : 3 + n + j = 32 := by omega
      have HJ := hide hj32
      clear hj2 hj32
      go_wp2_with fail
      refine (l1IntsOwn HO4.out.rd (by rw [HPl.out]; omega)).mono ?_
      rintro e w6 ⟨u6, rfl, hb6, ho6⟩
      rw [HPl.out] at ho6
      obtain ⟨ao6, c6, rfl⟩ := ownsRow_shape ho6
      have RB2 := HO4.out.rd.later hb6
      obtain ⟨aob', cb', esb, hsrc⟩ := RB2.src
      rw [HPl.out] at esb hsrc
      injection esb with e1 e2 e3
      subst e1
      have HSr := hide hsrc
      have HB6 := hide (HB.out.trans (hb6.mono (by omega)))
      have HO6 := hide ho6
      have hz6 := hb6.size
      clear hsrc RB2 e2 e3 hb6 ho6
      go_wp2_with (at_builtin; refine wpList_append_any _ rfl _ _ 22 rfl wr.heap.size 2 i0 (.int .i64 0) 1 8 Tryz.underlying22 hi hz0 hz1 hz2 rfl (by decide) _ (3 + n + j) _ (by rfl) HO6.out ao (3 + n + j) c ((packH s t xs).map (Value.int .i64)) (by rfl) (by simp [HPl.out]) HSr.out (ints_oneCell _ _) (by unfold maxLen; omega) (by omega) hz6 ?_)
      intro v' w7 hown hgrow
      have HO7 := hide hown
      have HG7 := hide (HB6.out.grown hgrow (by omega) (fun r hr => by have := (HO6.out.lt r hr).1; omega))
      clear hown hgrow
      go_wp2
      go_ret
      exact ⟨v', rfl, HG7.out, (ow_of_owns (xs := packL s t xs) (n := 3 + n + j + (3 + n + j)) (by unfold packL; simp [HPl.out]) (by unfold packL; rw [List.map_append]; exact HO7.out) (by unfold packL; simp [HPl.out]; omega)).mono (by omega)⟩
end Go.Proofs.YtlmaopljihbdkaaGreat
namespace Go.Proofs.YtlmaopljihbdkaaGreat
open Go.RowKit
end Go.Proofs.YtlmaopljihbdkaaGreat
namespace Go.Proofs.YtlmaopljihbdkaaGreat
open Go.RowKit
@[go_sem] theorem run_store_complex (P : Program) (w : World) (a : Addr) (m : Mode) (k : FloatKind) (x y : Nat) : (store a (.complex k x y) m).run P w = stored P w a (.complex k x y) m := run_store P w a _ m rfl
def zc : Value := .complex .f64 0 0
theorem Below.setCells {B b : Nat} {a w : World} (h : Below B a w) (hb : B ≤ b) : ∀ (o : Nat) (vs : List Value), Below B a (w.setCells b o vs) := by
  intro o vs
  induction vs generalizing o w with
  | nil => exact h
  | cons v r ih => exact ih (h.setCell (p := ⟨b, o, none⟩) hb v) (o + 1)
theorem range_new (w : World) (cs : List Value) (t : TypeId) : (w.alloc (.cells cs.toArray t)).rangeAt w.heap.size 0 cs := by
  intro j v hv
  have h := World.rangeAt_of_block (heap_alloc_new w (.cells cs.toArray t)) 0 cs.length
  simp at h
  have := h j v hv
  simpa using this
theorem there_new (w : World) (cs : List Value) (t : TypeId) (n : Nat) (hn : cs.length = n) : (w.alloc (.cells cs.toArray t)).there w.heap.size 0 n := by
  intro j hj
  refine ⟨(range_new w cs t).isSome j (by omega), by simp [go_sem]⟩
end Go.Proofs.YtlmaopljihbdkaaGreat
namespace Go.Proofs.YtlmaopljihbdkaaGreat
open Go.RowKit
theorem Tryz.sizeHHalf : (Tryz.prog.info? 251).map (·.size) = some 32 := by kernel_rfl
def u16s (L : List Int) : List Value := L.map (Value.int .u16)
theorem u16s_len (L : List Int) : (u16s L).length = L.length := by simp [u16s]
theorem u16s_at {L : List Int} {i : Nat} (h : i < L.length) : (u16s L)[i]? = some (.int .u16 (L.getD i 0)) := by simp [u16s, List.getD, h]
theorem u16s_one (L : List Int) : ∀ v ∈ u16s L, v.oneCell' = true := by
  intro v hv
  simp only [u16s, List.mem_map] at hv
  obtain ⟨i, _, rfl⟩ := hv
  rfl
theorem u16s_set (L : List Int) (i : Nat) (x : Int) : (u16s L).set i (.int .u16 x) = u16s (L.set i x) := by simp [u16s, List.map_set]
theorem rangeAt_set {w : World} {b : Nat} {cs : List Value} (h : w.rangeAt b 0 cs) (i : Nat) (x : Value) : (w.setCell ⟨b, i, none⟩ x).rangeAt b 0 (cs.set i x) := by
  intro j v hv
  rw [Nat.zero_add]
  have hj : j < cs.length := by
    have := (List.getElem?_eq_some_iff.1 hv).1
    simpa using this
  have hold := h j _ (List.getElem?_eq_getElem hj)
  rw [Nat.zero_add] at hold
  by_cases e : i = j
  · subst e
    rw [List.getElem?_set_self hj] at hv
    injection hv with hv
    rw [World.cell?_setCell_same _ _ _ hold, hv]
  · rw [List.getElem?_set_ne e] at hv
    rw [World.cell?_setCell_other _ _ _ _ (by intro h'; injection h' with _ h2; exact e h2), hold, ← hv, List.getElem?_eq_getElem hj]
theorem forget {P : Program} {c : Code} {Q : Exit → Act → World → Prop} {a : Act} {w0 : World} (R : World → Prop) (h0 : R w0) (h : ∀ w, R w → c.wp P Q a w) : c.wp P Q a w0 := h _ h0
structure ArrAt (w : World) (r v n : Nat) (cs : List Value) (wr : World) : Prop where
  below : Below w.heap.size w wr
  res : wr.there r 0 n
  free : ∀ o, wr.frozen? ⟨v, o, none⟩ = false
  cells : wr.rangeAt v 0 cs
theorem ArrAt.step {w wr : World} {r v n : Nat} {cs : List Value} (h : ArrAt w r v n cs wr) (hv : w.heap.size ≤ v) (hrv : r ≠ v) (i : Nat) (x : Value) : ArrAt w r v n (cs.set i x) (wr.setCell ⟨v, i, none⟩ x) := by
  refine ⟨h.below.setCell hv _, fun j hj => ?_, fun o => by rw [World.frozen?_setCell]; exact h.free o, rangeAt_set h.cells i x⟩
  rw [World.cell?_setCell_other _ _ _ _ (by intro h'; injection h' with h2 _; exact hrv h2.symm), World.frozen?_setCell]
  exact h.res j hj
theorem wrap_u16 {x : Int} (h0 : 0 ≤ x) (h1 : x ≤ 65535) : IntKind.u16.wrap x = x := by simp [IntKind.wrap, IntKind.bits, IntKind.signed]; omega
end Go.Proofs.YtlmaopljihbdkaaGreat
namespace Go.Proofs.YtlmaopljihbdkaaGreat
open Go.RowKit
theorem OwI.low {B B' : Nat} {w : World} {v : Value} {xs : List Int} (h : OwI B w v xs) (hB : B' ≤ B) : OwI B' w v xs := by
  obtain ⟨b, h1, h2⟩ := h
  exact ⟨b, h1, fun hn => ⟨Nat.le_trans hB (h2 hn).1, (h2 hn).2⟩⟩
end Go.Proofs.YtlmaopljihbdkaaGreat
namespace Go.Proofs.YtlmaopljihbdkaaGreat
open Go.RowKit
end Go.Proofs.YtlmaopljihbdkaaGreat
namespace Go.Proofs.YtlmaopljihbdkaaGreat
open Go.RowKit Go.Extern.Stop Go.Stop Go.Extern
end Go.Proofs.YtlmaopljihbdkaaGreat
namespace Go.Proofs.YtlmaopljihbdkaaGreat
open Go.RowKit Go.Extern.Stop Go.Stop Go.Extern
end Go.Proofs.YtlmaopljihbdkaaGreat
namespace Go.Proofs.YtlmaopljihbdkaaGreat
open Go.RowKit
end Go.Proofs.YtlmaopljihbdkaaGreat
namespace Go.Proofs.YtlmaopljihbdkaaGreat
open Go.RowKit
end Go.Proofs.YtlmaopljihbdkaaGreat
namespace Go.Proofs.YtlmaopljihbdkaaGreat
open Go.RowKit
structure Res7 (w wr : World) (r : Nat) : Prop where
  below : Below w.heap.size w wr
  v : Var7 wr r (.int .i64 0) (.int .i64 0) (.int .i64 0) (.int .i64 0) (.int .i64 0) (.slice none 0 0) (.slice none 0 0)
  fr : ∀ o, wr.frozen? ⟨r, o, none⟩ = false
  ge : w.heap.size ≤ r
theorem Res7.lt {w wr : World} {r : Nat} (h : Res7 w wr r) : r < wr.heap.size := h.v.lt
theorem Res7.later {w wr w1 : World} {r : Nat} (h : Res7 w wr r) (hb : Below wr.heap.size wr w1) : Res7 w w1 r :=
  ⟨below_on h.below hb, h.v.later hb, fun o => ((bcell hb).2 _ _ h.lt).trans (h.fr o), h.ge⟩
theorem Res7.start (w : World) (o : Obj) (t : TypeId) : Res7 w ((w.alloc o).alloc (.cells #[.int .i64 0, .int .i64 0, .int .i64 0, .int .i64 0, .int .i64 0, .slice none 0 0, .slice none 0 0] t)) (w.heap.size + 1) :=
  ⟨below_on (below_alloc _ _) (below_alloc _ _), by have h := Var7_new (w.alloc o) (.int .i64 0) (.int .i64 0) (.int .i64 0) (.int .i64 0) (.int .i64 0) (.slice none 0 0) (.slice none 0 0) t; simpa using h, fun o => by simp [go_sem], Nat.le_succ _⟩
theorem ret_raft {w w3 : World} {r lo : Nat} {x0 x1 x2 x3 x4 y z : Value} {xs : List Int} {ps : List Oj} (hb : Below w.heap.size w w3) (hr : w.heap.size ≤ r) (ho : IvR lo w3.heap.size w3 y z xs ps) (hlo : r < lo) :
    Below w.heap.size w (((((((w3.setCell ⟨r, 0, none⟩ x0).setCell ⟨r, 1, none⟩ x1).setCell ⟨r, 2, none⟩ x2).setCell ⟨r, 3, none⟩ x3).setCell ⟨r, 4, none⟩ x4).setCell ⟨r, 5, none⟩ y).setCell ⟨r, 6, none⟩ z) ∧ IvR w.heap.size (((((((w3.setCell ⟨r, 0, none⟩ x0).setCell ⟨r, 1, none⟩ x1).setCell ⟨r, 2, none⟩ x2).setCell ⟨r, 3, none⟩ x3).setCell ⟨r, 4, none⟩ x4).setCell ⟨r, 5, none⟩ y).setCell ⟨r, 6, none⟩ z).heap.size (((((((w3.setCell ⟨r, 0, none⟩ x0).setCell ⟨r, 1, none⟩ x1).setCell ⟨r, 2, none⟩ x2).setCell ⟨r, 3, none⟩ x3).setCell ⟨r, 4, none⟩ x4).setCell ⟨r, 5, none⟩ y).setCell ⟨r, 6, none⟩ z) y z xs ps := by
  have hw : Wr (fun q => q = r) w3 (((((((w3.setCell ⟨r, 0, none⟩ x0).setCell ⟨r, 1, none⟩ x1).setCell ⟨r, 2, none⟩ x2).setCell ⟨r, 3, none⟩ x3).setCell ⟨r, 4, none⟩ x4).setCell ⟨r, 5, none⟩ y).setCell ⟨r, 6, none⟩ z) := ((((((((Wr.refl (fun q => q = r) _).setCell (p := ⟨r, 0, none⟩) rfl _).setCell (p := ⟨r, 1, none⟩) rfl _).setCell (p := ⟨r, 2, none⟩) rfl _).setCell (p := ⟨r, 3, none⟩) rfl _).setCell (p := ⟨r, 4, none⟩) rfl _).setCell (p := ⟨r, 5, none⟩) rfl _).setCell (p := ⟨r, 6, none⟩) rfl _)
  exact ⟨(((((((hb.setCell (p := ⟨r, 0, none⟩) hr _).setCell (p := ⟨r, 1, none⟩) hr _).setCell (p := ⟨r, 2, none⟩) hr _).setCell (p := ⟨r, 3, none⟩) hr _).setCell (p := ⟨r, 4, none⟩) hr _).setCell (p := ⟨r, 5, none⟩) hr _).setCell (p := ⟨r, 6, none⟩) hr _), IvR.up (ho.wr hw (fun b h1 _ e => by omega)) (by omega) hw.size⟩
theorem ret_none {w w3 : World} {r : Nat} {x0 x1 x2 x3 x4 : Value} (hb : Below w.heap.size w w3) (hr : w.heap.size ≤ r) :
    Below w.heap.size w (((((((w3.setCell ⟨r, 0, none⟩ x0).setCell ⟨r, 1, none⟩ x1).setCell ⟨r, 2, none⟩ x2).setCell ⟨r, 3, none⟩ x3).setCell ⟨r, 4, none⟩ x4).setCell ⟨r, 5, none⟩ (.slice none 0 0)).setCell ⟨r, 6, none⟩ (.slice none 0 0)) ∧ IvR w.heap.size (((((((w3.setCell ⟨r, 0, none⟩ x0).setCell ⟨r, 1, none⟩ x1).setCell ⟨r, 2, none⟩ x2).setCell ⟨r, 3, none⟩ x3).setCell ⟨r, 4, none⟩ x4).setCell ⟨r, 5, none⟩ (.slice none 0 0)).setCell ⟨r, 6, none⟩ (.slice none 0 0)).heap.size (((((((w3.setCell ⟨r, 0, none⟩ x0).setCell ⟨r, 1, none⟩ x1).setCell ⟨r, 2, none⟩ x2).setCell ⟨r, 3, none⟩ x3).setCell ⟨r, 4, none⟩ x4).setCell ⟨r, 5, none⟩ (.slice none 0 0)).setCell ⟨r, 6, none⟩ (.slice none 0 0)) (.slice none 0 0) (.slice none 0 0) [] [] :=
  ⟨(((((((hb.setCell (p := ⟨r, 0, none⟩) hr _).setCell (p := ⟨r, 1, none⟩) hr _).setCell (p := ⟨r, 2, none⟩) hr _).setCell (p := ⟨r, 3, none⟩) hr _).setCell (p := ⟨r, 4, none⟩) hr _).setCell (p := ⟨r, 5, none⟩) hr _).setCell (p := ⟨r, 6, none⟩) hr _), IvR_nil _ _⟩
theorem l10BadI (x : Int) (w : World) : Calls Tryz.prog 47 #[.int .i64 x] w fun e w' => e = .returned (.agg #[.int .i64 x, .int .i64 0, .int .i64 0, .int .i64 0, .int .i64 0, .slice none 0 0, .slice none 0 0]) ∧ Below w.heap.size w w' := by
  go_enter Tryz.func47, Tryz.ntmps47
  go_wp2
  refine bodyPost_ret (v := .agg #[.int .i64 x, .int .i64 0, .int .i64 0, .int .i64 0, .int .i64 0, .slice none 0 0, .slice none 0 0]) (by simp [results, Tryz.results47, go_sem]) rfl ⟨rfl, ?_⟩
  repeat (first | refine Below.setCell ?_ (by simp) _ | exact below_alloc _ _)
end Go.Proofs.YtlmaopljihbdkaaGreat
