/- Spec2 Impl2 Hd Slot Spec2b Impl2b in one text: what each says stands at its head below. -/
import Derived.Test.YtamknomapabmfaaGreatG02
import Derived.Test.YtamknomapabmfaaGreatG03
import Derived.Test.YtamknomapabmfaaGreatG04
import Derived.Test.YtamknomapabmfaaGreatG05
import Derived.Deep.CutRange
/- Chapter 2, the model's side: 'spec.l2Fault', 'spec.HeaderFault', walked. -/
namespace Go.Proofs.YtamknomapabmfaaGreat
open Go.RowKit

/-- The fault of a header. -/
def headF (s t : Int) (xs : List Int) : Int :=
  if 1 ≤ s ∧ s ≤ 65000 ∧ 0 ≤ t ∧ t ≤ 23 then (if 24 < xs.length then 2 else if (∀ i, i < xs.length → 0 ≤ xs.getD i 0 ∧ xs.getD i 0 ≤ 39) then 0 else 3) else 3
theorem headF_range {s t : Int} {xs : List Int} (h : ¬ (1 ≤ s ∧ s ≤ 65000 ∧ 0 ≤ t ∧ t ≤ 23)) : headF s t xs = 3 := by unfold headF; rw [if_neg h]
theorem headF_many {s t : Int} {xs : List Int} (h : 1 ≤ s ∧ s ≤ 65000 ∧ 0 ≤ t ∧ t ≤ 23) (h2 : 24 < xs.length) : headF s t xs = 2 := by unfold headF; rw [if_pos h, if_pos h2]
theorem headF_ok {s t : Int} {xs : List Int} (h : 1 ≤ s ∧ s ≤ 65000 ∧ 0 ≤ t ∧ t ≤ 23) (h2 : ¬ 24 < xs.length) (h3 : ∀ i, i < xs.length → 0 ≤ xs.getD i 0 ∧ xs.getD i 0 ≤ 39) : headF s t xs = 0 := by unfold headF; rw [if_pos h, if_neg h2, if_pos h3]
theorem headF_at {s t : Int} {xs : List Int} (h : 1 ≤ s ∧ s ≤ 65000 ∧ 0 ≤ t ∧ t ≤ 23) (h2 : ¬ 24 < xs.length) {i : Nat} (hi : i < xs.length) (h3 : ¬ (0 ≤ xs.getD i 0 ∧ xs.getD i 0 ≤ 39)) : headF s t xs = 3 := by
  unfold headF; rw [if_pos h, if_neg h2, if_neg (fun k => h3 (k i hi))]
theorem headF_zero {s t : Int} {xs : List Int} (h : headF s t xs = 0) : (1 ≤ s ∧ s ≤ 65000 ∧ 0 ≤ t ∧ t ≤ 23) ∧ xs.length ≤ 24 ∧ ∀ i, i < xs.length → 0 ≤ xs.getD i 0 ∧ xs.getD i 0 ≤ 39 := by
  unfold headF at h
  split at h
  · rename_i h1
    split at h
    · exact absurd h (by decide)
    · rename_i h2
      split at h
      · rename_i h3
        exact ⟨h1, by omega, h3⟩
      · exact absurd h (by decide)
  · exact absurd h (by decide)

/-- A header's cells, at whatever place. -/
structure HdAt (w : World) (b o : Nat) (s t : Int) (y : Value) : Prop where
  seq : w.cell? ⟨b, o, none⟩ = some (.int .i64 s)
  start : w.cell? ⟨b, o + 1, none⟩ = some (.int .i64 t)
  addrs : w.cell? ⟨b, o + 2, none⟩ = some y

theorem l2Home_yes (v : Int) (h1 : 0 ≤ v) (h2 : v ≤ 39) (w : World) : Calls Tryz.prog 43 #[.int .i64 v] w fun e w' => e = .returned (.bool true) ∧ w' = w := by
  go_enter Tryz.func43, Tryz.ntmps43
  go_wp2_with fail
  refine (l1In_yes v 0 39 h1 h2 w).mono ?_
  rintro e w1 ⟨rfl, rfl⟩
  go_wp2
  go_ret
  exact ⟨rfl, rfl⟩
theorem l2Home_no (v : Int) (h : v < 0 ∨ 39 < v) (w : World) : Calls Tryz.prog 43 #[.int .i64 v] w fun e w' => e = .returned (.bool false) ∧ w' = w := by
  go_enter Tryz.func43, Tryz.ntmps43
  go_wp2_with fail
  refine (l1In_no v 0 39 h w).mono ?_
  rintro e w1 ⟨rfl, rfl⟩
  go_wp2
  go_ret
  exact ⟨rfl, rfl⟩

set_option maxHeartbeats 2000000 in
set_option maxRecDepth 4000 in
theorem l2Fault {S : Nat → Prop} {w : World} {b o : Nat} {s t : Int} {y : Value} {xs : List Int} (hd : HdAt w b o s t y) (hy : RdI S w y xs) :
    Calls Tryz.prog 104 #[.pointer (some ⟨b, o, none⟩)] w fun e w' => e = .returned (.int .i64 (headF s t xs)) ∧ w' = w := by
  have HY := hide hy
  have hyl : xs.length ≤ 9223372036854775807 := by obtain ⟨_, _, _, h, _⟩ := hy; exact h
  obtain ⟨ay, cy, rfl⟩ := hy.shape
  obtain ⟨n, hn⟩ : ∃ n, xs.length = n := ⟨_, rfl⟩
  have HN := hide hn
  rw [hn] at HY hyl hd
  have c0 := hd.seq
  have c1 := hd.start
  have c2 := hd.addrs
  clear hy hd hn
  obtain ⟨z, hz⟩ : ∃ z, headF s t xs = z := ⟨_, rfl⟩
  have HZ := hide hz
  rw [hz]
  clear hz
  by_cases h1 : 1 ≤ s ∧ s ≤ 65000
  · by_cases h2 : 0 ≤ t ∧ t ≤ 23
    · have hr : 1 ≤ s ∧ s ≤ 65000 ∧ 0 ≤ t ∧ t ≤ 23 := ⟨h1.1, h1.2, h2⟩
      have HRg := hide hr
      clear hr
      by_cases hb : 24 < n
      · have hz2 : z = 2 := HZ.out.symm.trans (headF_many HRg.out (by rw [HN.out]; exact hb))
        subst hz2
        go_enter Tryz.func104, Tryz.ntmps104
        go_wp2_with fail
        refine (l1In_yes s 1 65000 h1.1 h1.2 _).mono ?_
        rintro e w1 ⟨rfl, rfl⟩
        go_wp2_with fail
        refine (l1In_yes t 0 23 h2.1 h2.2 _).mono ?_
        rintro e w1 ⟨rfl, rfl⟩
        go_wp2
        go_ret
        exact ⟨rfl, rfl⟩
      · go_enter Tryz.func104, Tryz.ntmps104
        go_wp2_with fail
        refine (l1In_yes s 1 65000 h1.1 h1.2 _).mono ?_
        rintro e wx ⟨he, hwx⟩
        rw [he, hwx]
        clear he hwx
        go_wp2_with fail
        refine (l1In_yes t 0 23 h2.1 h2.2 _).mono ?_
        rintro e wx ⟨he, hwx⟩
        rw [he, hwx]
        clear he hwx
        go_wp2
        go_loopw [3] (fun i wr => ∃ k : Nat, k ≤ n ∧ i = .int .i64 k ∧ Hid (∀ j, j < k → 0 ≤ xs.getD j 0 ∧ xs.getD j 0 ≤ 39) ∧ wr = w) (fun i _ => n - (intOf i).toNat)
        case atStart => exact ⟨0, Nat.zero_le _, rfl, fun j hj => absurd hj (Nat.not_lt_zero _), rfl⟩
        case round =>
          obtain ⟨k, hk, rfl, HA, rfl⟩ := hrel
          by_cases hlt : k < n
          · obtain ⟨b2, off, rfl, g1⟩ := HY.out.at (k := k) (by rw [HN.out]; exact hlt)
            obtain ⟨x, hx⟩ : ∃ x, xs.getD k 0 = x := ⟨_, rfl⟩
            have HX := hide hx
            rw [hx] at g1
            clear hx
            by_cases hp : 0 ≤ x ∧ x ≤ 39
            · go_wp2_with fail
              refine (l2Home_yes x hp.1 hp.2 _).mono ?_
              rintro e w1 ⟨rfl, rfl⟩
              go_wp2
              go_roundw
              case rel => exact ⟨k + 1, by omega, by go_num, fun j hj => (by by_cases e : j = k; · subst e; rw [HX.out]; exact hp
                                                                             · exact HA.out j (by omega)), by simp⟩
              case measure => simp [intOf]; omega
            · have hz3 : z = 3 := HZ.out.symm.trans (headF_at HRg.out (by rw [HN.out]; exact hb) (i := k) (by rw [HN.out]; exact hlt) (by rw [HX.out]; exact hp))
              subst hz3
              go_wp2_with fail
              refine (l2Home_no x (by omega) _).mono ?_
              rintro e w1 ⟨rfl, rfl⟩
              go_wp2
              go_ret
              exact ⟨rfl, rfl⟩
          · have hz0 : z = 0 := HZ.out.symm.trans (headF_ok HRg.out (by rw [HN.out]; exact hb) (fun i hi => HA.out i (by rw [HN.out] at hi; omega)))
            subst hz0
            go_wp2
            go_ret
            exact ⟨rfl, rfl⟩
    · have hz3 : z = 3 := HZ.out.symm.trans (headF_range (fun h => h2 ⟨h.2.2.1, h.2.2.2⟩))
      subst hz3
      go_enter Tryz.func104, Tryz.ntmps104
      go_wp2_with fail
      refine (l1In_yes s 1 65000 h1.1 h1.2 _).mono ?_
      rintro e w1 ⟨rfl, rfl⟩
      go_wp2_with fail
      refine (l1In_no t 0 23 (by omega) _).mono ?_
      rintro e w1 ⟨rfl, rfl⟩
      go_wp2
      go_ret
      exact ⟨rfl, rfl⟩
  · have hz3 : z = 3 := HZ.out.symm.trans (headF_range (fun h => h1 ⟨h.1, h.2.1⟩))
    subst hz3
    go_enter Tryz.func104, Tryz.ntmps104
    go_wp2_with fail
    refine (l1In_no s 1 65000 (by omega) _).mono ?_
    rintro e w1 ⟨rfl, rfl⟩
    go_wp2
    go_ret
    exact ⟨rfl, rfl⟩

theorem HdAt_new (w : World) (s t : Int) (y : Value) (ty : TypeId) : HdAt (w.alloc (.cells #[.int .i64 s, .int .i64 t, y] ty)) w.heap.size 0 s t y := ⟨by simp [go_sem], by simp [go_sem], by simp [go_sem]⟩
theorem HdAt.later {w w' : World} {b o : Nat} {s t : Int} {y : Value} (h : HdAt w b o s t y) (hb : Below w.heap.size w w') : HdAt w' b o s t y := ⟨cell_later hb h.seq, cell_later hb h.start, cell_later hb h.addrs⟩

end Go.Proofs.YtamknomapabmfaaGreat
/- Chapter 2, the program's side: 'impl.HeaderFault', walked. -/
namespace Go.Proofs.YtamknomapabmfaaGreat
open Go.RowKit

theorem isHome_yes (v : Int) (h1 : 0 ≤ v) (h2 : v < 40) (w : World) : Calls Tryz.prog 58 #[.int .i64 v] w fun e w' => e = .returned (.bool true) ∧ w' = w := by
  have h3 : ¬ v < 0 := by omega
  go_enter Tryz.func58, Tryz.ntmps58
  go_wp2
  go_ret
  exact ⟨rfl, rfl⟩
theorem isHome_no (v : Int) (h : ¬ (0 ≤ v ∧ v < 40)) (w : World) : Calls Tryz.prog 58 #[.int .i64 v] w fun e w' => e = .returned (.bool false) ∧ w' = w := by
  by_cases h1 : v < 0
  · have h2 : ¬ 0 ≤ v := by omega
    clear h
    go_enter Tryz.func58, Tryz.ntmps58
    go_wp2
    go_ret
    exact ⟨rfl, rfl⟩
  · have h2 : 0 ≤ v := by omega
    have h3 : 40 ≤ v := by omega
    have h4 : ¬ v < 40 := by omega
    clear h
    go_enter Tryz.func58, Tryz.ntmps58
    go_wp2
    go_ret
    exact ⟨rfl, rfl⟩

end Go.Proofs.YtamknomapabmfaaGreat
/- The laws' helpers over Header and HeaderResult. Made by program (genflat.py). -/
namespace Go.Proofs.YtamknomapabmfaaGreat
open Go.RowKit
end Go.Proofs.YtamknomapabmfaaGreat
/- Chapter 3: slots that go round: 'slotFrom', 'l3Slot', 'SlotOf' of the model and of the program, walked. -/
namespace Go.Proofs.YtamknomapabmfaaGreat
open Go.RowKit

theorem slot_mod {t i : Int} (h1 : 0 ≤ t) (h2 : 0 ≤ i) : Int.tmod (t + i) 24 = (t + i) % 24 := Int.tmod_eq_emod_of_nonneg (by omega)

/-- 'spec.l3Slot' of a header that has no fault. -/
theorem l3Slot {b o : Nat} {s t : Int} {y : Value} (i : Int) (w : World) (hd : HdAt w b o s t y) (ht : 0 ≤ t) (ht' : t ≤ 23) (hi : 0 ≤ i) (hi' : i ≤ 1048576) :
    Calls Tryz.prog 82 #[.pointer (some ⟨b, o, none⟩), .int .i64 i] w fun e w' => e = .returned (.int .i64 ((t + i) % 24)) ∧ w' = w := by
  have hmod := slot_mod ht hi
  have c1 := hd.start
  clear hd
  go_enter Tryz.func82, Tryz.ntmps82
  go_wp2
  go_ret
  exact ⟨rfl, rfl⟩

/-- The code of 'SlotOf', and its value. -/
def slF (s t : Int) (xs : List Int) (i : Int) : Int := if headF s t xs = 0 then (if 0 ≤ i ∧ i ≤ 23 then 0 else 3) else headF s t xs
def slV (s t : Int) (xs : List Int) (i : Int) : Int := if slF s t xs i = 0 then (t + i) % 24 else 0

end Go.Proofs.YtamknomapabmfaaGreat
/- Chapter 2, the model's side: 'spec.l2Pack', 'spec.PackHeader', walked. -/
namespace Go.Proofs.YtamknomapabmfaaGreat
open Go.RowKit

/-- An append onto what the call itself has made, as one step of a region that draws its order. -/
theorem step_append_any {P : Program} (w : World) {ops : Array Oper} {o : Oper} {a : Act} {K : Act → World → Prop} {Q : Exit → Act → World → Prop} {E : Prop} (hgd : o.guard = none) (s x : Operand) (t : TypeId)
    (ho : o.op = .call { callee := .builtin .append, args := #[s, x], argTypes := #[t, t] })
    (base : Nat) (e : TypeId) (i : TypeInfo) (z : Value) (size bytes : Nat) (ht : P.underlying t = some (.slice e)) (hi : P.info? e = some i) (hz : i.zero = some z)
    (hsize : i.size = size) (hby : i.bytes = bytes) (hzs : z.cells.size = size) (hsz : 0 < size)
    (v : Value) (n : Nat) (xs : List Value) (hs : a.eval s = v) (hown : w.ownsRow base e size v n xs)
    (ao : Option Addr) (m c : Nat) (news : List Value) (hx : a.eval x = .slice ao m c) (hl : news.length = m * size)
    (hnews : m ≠ 0 → ∃ ad, ao = some ad ∧ ∀ j u, news[j]? = some u → w.cell? (ad.add j) = some u) (h1 : ∀ u ∈ news, u.oneCell' = true)
    (h63 : n + m ≤ maxLen) (hbytes : (n + m) * bytes ≤ 140737488355328) (hbase : base ≤ w.heap.size)
    (h : ∀ v' w', w'.ownsRow base e size v' (n + m) (xs ++ news) → w.grownBy w' v.ownBlock → K (a.put o.dst v') w') : if Region.wanted o (yielded ops a.tmps) = true then Oper.wp P o a w K Q else E := by
  have hw : Region.wanted o (yielded ops a.tmps) = true := by simp [Region.wanted, hgd]
  rw [if_pos hw]
  by_cases hm : m = 0
  · subst hm
    have hn : news = [] := List.eq_nil_of_length_eq_zero (by simpa using hl)
    subst hn
    have hv : ∃ ad k, v = .slice ad n k ∧ n ≤ k := by
      rcases hown.2 with ⟨rfl, rfl⟩ | ⟨g, cap, cur, rfl, _, _, hnc, _⟩
      · exact ⟨_, _, rfl, Nat.le_refl _⟩
      · exact ⟨_, _, rfl, hnc⟩
    obtain ⟨ad, k, rfl, hk⟩ := hv
    have hrun := run_append_zero (P := P) w t o.type e i ht hi ad n k hk ao c
    unfold Oper.wp
    simp [execOp, ho, resolve, invoke, builtin, hs, hx, hrun, Result.andThen]
    exact h _ w (by simpa using hown) (World.grownBy.refl _ _)
  · obtain ⟨ad, rfl, hc⟩ := hnews hm
    exact wp_append_own (P := P) w s x t ho base e i z size bytes ht hi hz hsize hby hzs hsz v n xs hs hown ad m c news hx hl hc h1 h63 hbytes hbase (fun v' w' k1 k2 _ => h v' w' k1 k2)

theorem ownsRow_full (w : World) (cs : List Value) (e : TypeId) (hm : cs.length ≤ 1048576) : (w.alloc (.cells cs.toArray e)).ownsRow w.heap.size e 1 (.slice (some ⟨w.heap.size, 0, none⟩) cs.length cs.length) cs.length cs :=
  ⟨by simp, .inr ⟨w.heap.size, cs.length, cs.toArray, rfl, Nat.le_refl _, heap_alloc_new w _, Nat.le_refl _, by unfold maxLen; omega, by simp, by simp⟩⟩

/-- One half of a header's words; all of them. -/
def packH (s t : Int) (xs : List Int) : List Int := [s, t, (xs.length : Int)] ++ xs ++ List.replicate (29 - xs.length) 0
def packL (s t : Int) (xs : List Int) : List Int := packH s t xs ++ packH s t xs
theorem packH_len {s t : Int} {xs : List Int} (h : xs.length ≤ 29) : (packH s t xs).length = 32 := by simp [packH]; omega
theorem packL_len {s t : Int} {xs : List Int} (h : xs.length ≤ 29) : (packL s t xs).length = 64 := by simp [packL, packH_len h]

set_option maxHeartbeats 4000000 in
set_option maxRecDepth 4000 in
theorem l2Pack {S : Nat → Prop} {w : World} {b o : Nat} {s t : Int} {y : Value} {xs : List Int} (hd : HdAt w b o s t y) (hy : RdI S w y xs) (hl : xs.length ≤ 29) :
    Calls Tryz.prog 66 #[.pointer (some ⟨b, o, none⟩)] w fun e w' => ∃ z, e = .returned z ∧ Below w.heap.size w w' ∧ OwI w.heap.size w' z (packL s t xs) := by
  have HY := hide hy
  obtain ⟨ay, cy, hsh, hsrc⟩ := hy.src
  subst hsh
  obtain ⟨i0, hi, hz0, hz1, hz2⟩ := info_parts Tryz.infoInt
  obtain ⟨n, hn⟩ : ∃ n, xs.length = n := ⟨_, rfl⟩
  have HN := hide hn
  rw [hn] at hd hl
  rw [hn] at hsrc
  have HSr := hide hsrc
  have c0 := hd.seq
  have c1 := hd.start
  have c2 := hd.addrs
  have hbl := World.block_lt_of_cell? _ _ c0
  clear hy hd hn hsrc
  go_enter Tryz.func66, Tryz.ntmps66
  go_wp2_with fail
  have BA := below_on (below_alloc w (.cells #[.int .i64 s, .int .i64 t, .int .i64 (n : Int)] 2)) (below_drewN _ 1)
  have OF := hide (ownsRow_full w [.int .i64 s, .int .i64 t, .int .i64 (n : Int)] 2 (by simp))
  have d0 := cell_later BA c0
  have d1 := cell_later BA c1
  have d2 := cell_later BA c2
  have HSr2 : Hid (n ≠ 0 → ∃ ad, ay = some ad ∧ ∀ j u, (xs.map (Value.int .i64))[j]? = some u → ((w.alloc (.cells #[.int .i64 s, .int .i64 t, .int .i64 (n : Int)] 2)).drewN 1).cell? (ad.add j) = some u) := fun hne => by obtain ⟨ad, e, hc⟩ := HSr.out hne; exact ⟨ad, e, fun j u hu => cell_later BA (hc j u hu)⟩
  go_region_held3 (fun w' => w'.cell? ⟨b, o, none⟩ = some (.int .i64 s) ∧ w'.cell? ⟨b, o + 1, none⟩ = some (.int .i64 t) ∧ w'.cell? ⟨b, o + 2, none⟩ = some (.slice ay n cy)) (first | exact ⟨c0, c1, c2⟩ | exact ⟨d0, d1, d2⟩ | exact ⟨s0, s1, s2⟩)
    (first | (refine step_append_any _ (by rfl) _ _ _ (by rfl) w.heap.size 2 i0 (.int .i64 0) 1 8 Tryz.underlying24 hi hz0 hz1 hz2 rfl (by omega) (.slice (some ⟨w.heap.size, 0, none⟩) 3 3) 3 [.int .i64 s, .int .i64 t, .int .i64 (n : Int)] (by rfl) OF.out ay n cy (xs.map (Value.int .i64)) (by rfl) (by simp [HN.out]) HSr2.out (ints_oneCell _ _) (by unfold maxLen; omega) (by omega) (by simp) ?_; intro v3 w3 hown hgrow; have s0 := (hgrow.cell_far ⟨b, o, none⟩ (by simp; omega) (fun e => by simp [Value.ownBlock] at e; omega)).trans d0; have s1 := (hgrow.cell_far ⟨b, o + 1, none⟩ (by simp; omega) (fun e => by simp [Value.ownBlock] at e; omega)).trans d1; have s2 := (hgrow.cell_far ⟨b, o + 2, none⟩ (by simp; omega) (fun e => by simp [Value.ownBlock] at e; omega)).trans d2))
  obtain ⟨ao3, c3, rfl⟩ := ownsRow_shape hown
  have O3 : Hid (w3.ownsRow w.heap.size 2 1 (.slice ao3 (3 + n) c3) (3 + n) ((([s, t, (n : Int)] ++ xs) ++ List.replicate 0 0).map (Value.int .i64))) := by
    have := hown
    simpa [Hid] using this
  have B3 := hide (BA.grown hgrow (by simp) (fun r hr => by simp [Value.ownBlock] at hr; omega))
  clear hown hgrow s0 s1 s2 d0 d1 d2 c0 c1 c2 OF BA HSr HSr2 HY
  obtain ⟨A, hA⟩ : ∃ A, [s, t, (n : Int)] ++ xs = A := ⟨_, rfl⟩
  have HAl : Hid (A.length = 3 + n) := by unfold Hid; rw [← hA]; simp [HN.out]; omega
  have HAe : Hid (packH s t xs = A ++ List.replicate (29 - n) 0) := by unfold Hid packH; rw [← hA, HN.out]
  rw [hA] at O3
  clear hA
  go_wp2
  go_loopw [3] (fun v wr => ∃ (j : Nat) (ao : Option Addr) (c : Nat), 3 + n + j ≤ 32 ∧ v = .slice ao (3 + n + j) c ∧ Hid (wr.ownsRow w.heap.size 2 1 (.slice ao (3 + n + j) c) (3 + n + j) ((A ++ List.replicate j 0).map (Value.int .i64))) ∧ Hid (Below w.heap.size w wr)) (fun v _ => 32 - sliceLen v)
  case atStart => exact ⟨0, ao3, c3, by omega, rfl, O3.out, B3.out⟩
  case round =>
    obtain ⟨j, ao, c, hj, rfl, HO2, HB⟩ := hrel
    have hz := HB.out.size
    by_cases hlt : 3 + n + j < 32
    · go_wp2_with (at_builtin; refine wpList_append_lies _ rfl _ _ _ rfl w.heap.size 2 i0 (.int .i64 0) 1 8 Tryz.underlying24 hi hz0 hz1 hz2 rfl (by omega) _ (3 + n + j) _ (by rfl) (HO2.out.alloc _) ⟨wr.heap.size, 0, none⟩ 1 1 [.int .i64 0] (by rfl) (by rfl) (World.news_of_block (cs := #[.int .i64 0]) (t := 2) (fr := (0, 0)) (heap_alloc_new wr _)) (by simp [Value.oneCell']) (by omega) (by unfold maxLen; omega) (by omega) (by simp; omega) (wr.heap.size + 1) (by simp) ?_)
      intro g cap w5 hown hgrow hat hlt3
      have HO3 : Hid (w5.ownsRow w.heap.size 2 1 (.slice (some ⟨g, 0, none⟩) (3 + n + (j + 1)) cap) (3 + n + (j + 1)) ((A ++ List.replicate (j + 1) 0).map (Value.int .i64))) := by rw [Hid, snoc_zero]; exact hown
      have HG3 := hide ((HB.out.trans ((below_alloc wr (.cells #[.int .i64 0] 2)).mono (by omega))).grown hgrow (by simp; omega) (fun r hr => (HO2.out.lt r hr).1))
      clear hown hgrow hat hlt3
      go_wp2
      go_roundw
      case rel => exact ⟨j + 1, _, _, by omega, rfl, HO3.out, HG3.out⟩
      case measure => simp [sliceLen]; omega
    · have hj2 : j = 29 - n := by omega
      have HP : Hid (A ++ List.replicate j 0 = packH s t xs) := by unfold Hid; rw [HAe.out, hj2]
      have HPl : Hid ((packH s t xs).length = 3 + n + j) := by unfold Hid; rw [packH_len (by rw [HN.out]; exact hl)]; omega
      have HO4 : Hid (OwI w.heap.size wr (.slice ao (3 + n + j) c) (packH s t xs)) := ow_of_owns HPl.out (by rw [← HP.out]; exact HO2.out) (by rw [HPl.out]; omega)
      have hj32 : 3 + n + j = 32 := by omega
      have HJ := hide hj32
      clear hj2 hj32
      go_wp2_with fail
      refine (l1IntsOwn HO4.out.rd (by rw [HPl.out]; omega)).mono ?_
      rintro e w6 ⟨u6, rfl, hb6, ho6⟩
      rw [HPl.out] at ho6
      obtain ⟨ao6, c6, rfl⟩ := ownsRow_shape ho6
      have RB2 := HO4.out.rd.later hb6
      obtain ⟨aob', cb', esb, hsrc⟩ := RB2.src
      rw [HPl.out] at esb hsrc
      injection esb with e1 e2 e3
      subst e1
      have HSr := hide hsrc
      have HB6 := hide (HB.out.trans (hb6.mono (by omega)))
      have HO6 := hide ho6
      have hz6 := hb6.size
      clear hsrc RB2 e2 e3 hb6 ho6
      go_wp2_with (at_builtin; refine wpList_append_any _ rfl _ _ 24 rfl wr.heap.size 2 i0 (.int .i64 0) 1 8 Tryz.underlying24 hi hz0 hz1 hz2 rfl (by decide) _ (3 + n + j) _ (by rfl) HO6.out ao (3 + n + j) c ((packH s t xs).map (Value.int .i64)) (by rfl) (by simp [HPl.out]) HSr.out (ints_oneCell _ _) (by unfold maxLen; omega) (by omega) hz6 ?_)
      intro v' w7 hown hgrow
      have HO7 := hide hown
      have HG7 := hide (HB6.out.grown hgrow (by omega) (fun r hr => by have := (HO6.out.lt r hr).1; omega))
      clear hown hgrow
      go_wp2
      go_ret
      exact ⟨v', rfl, HG7.out, (ow_of_owns (xs := packL s t xs) (n := 3 + n + j + (3 + n + j)) (by unfold packL; simp [HPl.out]) (by unfold packL; rw [List.map_append]; exact HO7.out) (by unfold packL; simp [HPl.out]; omega)).mono (by omega)⟩

end Go.Proofs.YtamknomapabmfaaGreat
/- Chapter 2, the program's side: 'impl.halfOf', walked. -/
namespace Go.Proofs.YtamknomapabmfaaGreat
open Go.RowKit
/-- The cells of a row of words of 16 bits. -/
def u16s (L : List Int) : List Value := L.map (Value.int .u16)
theorem u16s_len (L : List Int) : (u16s L).length = L.length := by simp [u16s]
theorem u16s_at {L : List Int} {i : Nat} (h : i < L.length) : (u16s L)[i]? = some (.int .u16 (L.getD i 0)) := by simp [u16s, List.getD, h]
theorem u16s_one (L : List Int) : ∀ v ∈ u16s L, v.oneCell' = true := by
  intro v hv
  simp only [u16s, List.mem_map] at hv
  obtain ⟨i, _, rfl⟩ := hv
  rfl
theorem u16s_set (L : List Int) (i : Nat) (x : Int) : (u16s L).set i (.int .u16 x) = u16s (L.set i x) := by simp [u16s, List.map_set]

theorem rangeAt_set {w : World} {b : Nat} {cs : List Value} (h : w.rangeAt b 0 cs) (i : Nat) (x : Value) : (w.setCell ⟨b, i, none⟩ x).rangeAt b 0 (cs.set i x) := by
  intro j v hv
  rw [Nat.zero_add]
  have hj : j < cs.length := by
    have := (List.getElem?_eq_some_iff.1 hv).1
    simpa using this
  have hold := h j _ (List.getElem?_eq_getElem hj)
  rw [Nat.zero_add] at hold
  by_cases e : i = j
  · subst e
    rw [List.getElem?_set_self hj] at hv
    injection hv with hv
    rw [World.cell?_setCell_same _ _ _ hold, hv]
  · rw [List.getElem?_set_ne e] at hv
    rw [World.cell?_setCell_other _ _ _ _ (by intro h'; injection h' with _ h2; exact e h2), hold, ← hv, List.getElem?_eq_getElem hj]

/-- Of the world that the walk stands in no more is kept than R. -/
theorem forget {P : Program} {c : Code} {Q : Exit → Act → World → Prop} {a : Act} {w0 : World} (R : World → Prop) (h0 : R w0) (h : ∀ w, R w → c.wp P Q a w) : c.wp P Q a w0 := h _ h0

/-- An array in a block of the call's own, beside the result's one. -/
structure ArrAt (w : World) (r v n : Nat) (cs : List Value) (wr : World) : Prop where
  below : Below w.heap.size w wr
  res : wr.there r 0 n
  free : ∀ o, wr.frozen? ⟨v, o, none⟩ = false
  cells : wr.rangeAt v 0 cs

theorem ArrAt.step {w wr : World} {r v n : Nat} {cs : List Value} (h : ArrAt w r v n cs wr) (hv : w.heap.size ≤ v) (hrv : r ≠ v) (i : Nat) (x : Value) : ArrAt w r v n (cs.set i x) (wr.setCell ⟨v, i, none⟩ x) := by
  refine ⟨h.below.setCell hv _, fun j hj => ?_, fun o => by rw [World.frozen?_setCell]; exact h.free o, rangeAt_set h.cells i x⟩
  rw [World.cell?_setCell_other _ _ _ _ (by intro h'; injection h' with h2 _; exact hrv h2.symm), World.frozen?_setCell]
  exact h.res j hj

theorem wrap_u16 {x : Int} (h0 : 0 ≤ x) (h1 : x ≤ 65535) : IntKind.u16.wrap x = x := by simp [IntKind.wrap, IntKind.bits, IntKind.signed]; omega

/-- A half of which k addresses are laid. -/
def halfTo (s t n : Int) (xs : List Int) (k : Nat) : List Int := [s, t, n] ++ xs.take k ++ List.replicate (29 - k) 0
theorem halfTo_len {s t n : Int} {xs : List Int} {k : Nat} (h : k ≤ xs.length) (h2 : xs.length ≤ 29) : (halfTo s t n xs k).length = 32 := by simp [halfTo]; omega
theorem halfTo_step {s t n : Int} {xs : List Int} {k : Nat} (h : k < xs.length) (h2 : xs.length ≤ 29) : (halfTo s t n xs k).set (3 + k) (xs.getD k 0) = halfTo s t n xs (k + 1) := by
  unfold halfTo
  have hl : ([s, t, n] ++ xs.take k).length = 3 + k := by simp; omega
  rw [show 29 - k = (29 - (k + 1)) + 1 by omega, List.replicate_succ, List.set_append_right _ _ (by rw [hl]; exact Nat.le_refl _), hl, Nat.sub_self, List.set_cons_zero, List.take_succ_eq_append_getElem h]
  simp only [List.getD, List.getElem?_eq_getElem h, Option.getD_some, List.append_assoc, List.cons_append, List.nil_append]
theorem halfTo_end {s t : Int} {xs : List Int} : halfTo s t (xs.length : Int) xs xs.length = packH s t xs := by simp [halfTo, packH]

end Go.Proofs.YtamknomapabmfaaGreat
