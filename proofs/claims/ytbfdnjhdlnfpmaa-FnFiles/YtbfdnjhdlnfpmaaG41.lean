/- DrawF6 DrawF7 in one text: what each says stands at its head below. -/
import Derived.Test.YtbfdnjhdlnfpmaaG40
import Derived.Deep.RegionHeld3
/- Chapter 8, draws: 'l8With', walked: a list of files that can be read, and some name. -/
namespace Go.Proofs.Ytbfdnjhdlnfpmaa
open Go.RowKit

set_option maxHeartbeats 2000000 in
set_option maxRecDepth 4000 in
theorem l1ChanceF {s : Nat} {v : Value} {bs : List Nat} {w : World} {t : Nat} (n : Int) (hS : Src s v bs w t) (ht : t ≤ 1000000000) (hn : n ≤ 1073741824) (hn1 : -1073741824 ≤ n) :
    Calls Try.prog 35 #[.pointer (some ⟨s, 0, none⟩), .int .i64 n] w fun e w' => ∃ r : Bool, e = .returned (.bool r) ∧ ∃ t', Drawn 1 s v bs t t' w w' := by
  have HS := hide hS
  clear hS
  go_enter Try.func35, Try.ntmps35
  go_wp2_with fail
  refine (l1Next n HS.out (by omega) hn hn1).mono ?_
  rintro e w1 ⟨r, rfl, ra, rb, t1, hd1⟩
  have HD := hide hd1
  clear hd1 rb
  by_cases h : r = 0
  · subst h
    go_wp2
    go_ret
    exact ⟨_, rfl, t1, HD.out⟩
  · have hb : (r == 0) = false := by simpa using h
    go_wp2
    go_ret
    exact ⟨_, rfl, t1, HD.out⟩

set_option maxHeartbeats 4000000 in
set_option maxRecDepth 4000 in
theorem l8With {w : World} {v : Value} {bs : List Nat} (hv : RdB w.heap.size w v bs) :
    Calls Try.prog 31 #[v] w fun e w' => ∃ (ao : Option Addr) (n c : Nat) (fs : List Oj) (x : Int), e = .returned (.tuple #[.slice ao n c, .int .i64 x]) ∧ fs.length = n ∧ n ≤ 5 ∧ (∀ p, p ∈ fs → p.2.2.length ≤ 6) ∧ Below w.heap.size w w' ∧ RdJ (w.heap.size + 1 ≤ ·) w' (.slice ao n c) fs := by
  have HV := hide hv
  obtain ⟨av, cv, rfl, h2, h3⟩ := hv
  clear h2 h3
  go_enter Try.func31, Try.ntmps31
  go_wp2_with fail
  refine (l1Source HV.out).mono ?_
  rintro e w1 ⟨rfl, hb1, hz1, hS1⟩
  have HB1 := hide hb1
  have HS1 := hide hS1
  have hz1' : w.heap.size + 1 ≤ w1.heap.size := by omega
  have HZ1 := hide hz1
  clear hb1 hS1 hz1
  go_wp2_with fail
  refine (l8Bent HS1.out (by omega)).mono ?_
  rintro e w2 ⟨ao, n, c, fs, rfl, hn, hn5, hl, hr, t2, hd2⟩
  have D2 := hide hd2
  have hs2 := hd2.2.1.size
  have ht2 := hd2.2.2
  have HN := hide hn
  have HL := hide hl
  have HR2 : Hid (RdJ (w.heap.size + 1 ≤ ·) w2 (.slice ao n c) fs) := by have := HZ1.out; rw [this] at hr; exact hr
  clear hd2 hn hl hr
  have HBw : ∀ (w9 : World) (N t9 : Nat), Drawn N w.heap.size (.slice av bs.length cv) bs 0 t9 w1 w9 → Below w.heap.size w w9 := fun w9 N t9 h => HB1.out.trans (h.2.1.below (by omega) (fun b hb => by omega))
  have HBW := hide HBw
  have HRw : ∀ (wa wb : World), RdJ (w.heap.size + 1 ≤ ·) wa (.slice ao n c) fs → Wr (· = w.heap.size) wa wb → RdJ (w.heap.size + 1 ≤ ·) wb (.slice ao n c) fs := fun wa wb h1 h2 => h1.wr h2 (fun b hb e => by omega)
  have HRW := hide HRw
  clear HBw HRw
  have hlast : ∀ (w4 : World) (t4 : Nat), Drawn 13 w.heap.size (.slice av bs.length cv) bs 0 t4 w1 w4 → True := fun _ _ _ => trivial
  clear hlast
  by_cases hn0 : n = 0
  · subst hn0
    go_wp2_with fail
    refine (l1Next 8 D2.out.1 (by omega) (by omega) (by omega)).mono ?_
    rintro e w3 ⟨r, rfl, ra, rb, t3, hd3⟩
    have hr8 := rb (by omega)
    have hw3 : IntKind.i64.wrap (1 + r) = 1 + r := by simp [IntKind.wrap, IntKind.bits, IntKind.signed]; omega
    have HB := hide (HBW.out _ _ _ (D2.out.on hd3))
    have HR := hide (HRW.out _ _ HR2.out hd3.2.1)
    clear hd3 rb
    go_wp2
    exact bodyPost_ret (v := .tuple #[.slice ao 0 c, .int .i64 (1 + r)]) (by simp [results, Try.results31]) rfl ⟨ao, 0, c, fs, _, rfl, HN.out, by omega, HL.out, HB.out, HR.out⟩
  · have hnp : (0 : Int) < (n : Int) := by omega
    have hnp' : 0 < n := by omega
    go_wp2_with fail
    refine (l1ChanceF 4 D2.out.1 (by omega) (by omega) (by omega)).mono ?_
    rintro e w3 ⟨r, rfl, t3, hd3⟩
    have D3 := hide (D2.out.on hd3)
    have HR3 := hide (HRW.out _ _ HR2.out hd3.2.1)
    have ht3 := D3.out.2.2
    clear hd3
    cases r with
    | true =>
      go_wp2_with fail
      refine (l1Next 8 D3.out.1 (by omega) (by omega) (by omega)).mono ?_
      rintro e w4 ⟨r, rfl, ra, rb, t4, hd4⟩
      have hr8 := rb (by omega)
      have hw4 : IntKind.i64.wrap (1 + r) = 1 + r := by simp [IntKind.wrap, IntKind.bits, IntKind.signed]; omega
      have HB := hide (HBW.out _ _ _ (D3.out.on hd4))
      have HR := hide (HRW.out _ _ HR3.out hd4.2.1)
      clear hd4 rb
      go_wp2
      exact bodyPost_ret (v := .tuple #[.slice ao n c, .int .i64 (1 + r)]) (by simp [results, Try.results31]) rfl ⟨ao, n, c, fs, _, rfl, HN.out, hn5, HL.out, HB.out, HR.out⟩
    | false =>
      have HC := hide (l1Next (n : Int) (D3.out.1.drewN 1) (by omega) (by omega) (by omega))
      go_wp2_with fail
      go_region_law (first
        | (go_simp; go_at_call 24; refine HC.out.mono ?_; rintro e w4 ⟨r, rfl, ra, rb, t4, hd4⟩; have hrn := rb (by omega); obtain ⟨k, hk⟩ : ∃ k : Nat, r = (k : Int) := ⟨r.toNat, (by omega)⟩; subst hk; have hkn : k < n := (by omega); have HB := hide (HBW.out _ _ _ ((D3.out.later (below_drewN w3 1)).on hd4)); have HR := hide (HRW.out _ _ (HR3.out.later (below_drewN w3 1)) hd4.2.1); obtain ⟨b, off, hao, yy, q0, _⟩ := HR.out.file (k := k) (by rw [HN.out]; exact hkn); subst hao; obtain ⟨x, hx⟩ : ∃ x, (fs.getD k oj0).1 = x := ⟨_, rfl⟩; rw [hx] at q0; clear hd4 rb hx)
        | fail)
      all_goals
        go_wp2
        exact bodyPost_ret (v := .tuple #[.slice (some ⟨b, off, none⟩) n c, .int .i64 x]) (by simp [results, Try.results31, go_sem, Act.put]) rfl ⟨_, n, c, fs, _, rfl, HN.out, hn5, HL.out, HB.out, HR.out⟩
end Go.Proofs.Ytbfdnjhdlnfpmaa
/- Chapter 8, draws: 'DrawRenameFile', walked: a list of files that can be read, and two names. -/
namespace Go.Proofs.Ytbfdnjhdlnfpmaa
open Go.RowKit

theorem Try.infoU8 : (Try.prog.info? 5).map (fun i => (i.zero, i.size, i.bytes)) = some (some (.int .u8 0), 1, 1) := by kernel_rfl
def u8s (bs : List Nat) : List Value := bs.map fun b => .int .u8 ((b : Nat) : Int)
theorem u8s_one (bs : List Nat) : ∀ u ∈ u8s bs, u.oneCell' = true := by
  intro u hu
  obtain ⟨b, _, rfl⟩ := List.mem_map.1 hu
  rfl
theorem RdB.src {s : Nat} {w : World} {v : Value} {bs : List Nat} (h : RdB s w v bs) : ∃ ao c, v = .slice ao bs.length c ∧ (bs.length ≠ 0 → ∃ ad, ao = some ad ∧ ∀ j u, (u8s bs)[j]? = some u → w.cell? (ad.add j) = some u) := by
  obtain ⟨ao, c, h1, _, h3⟩ := h
  refine ⟨ao, c, h1, fun hne => ?_⟩
  obtain ⟨b, off, e, _, hc⟩ := h3 (fun e => hne (by rw [e]; rfl))
  refine ⟨_, e, fun j u hu => ?_⟩
  have hj : j < bs.length := by
    have := (List.getElem?_eq_some_iff.1 hu).1
    simpa [u8s] using this
  rw [Addr.add_lit, (hc j hj).1]
  simp [u8s, hj] at hu
  simp [List.getD, hj, hu]
theorem RdB.later {s : Nat} {w w' : World} {v : Value} {bs : List Nat} (h : RdB s w v bs) (hb : Below w.heap.size w w') : RdB s w' v bs := by
  obtain ⟨ao, c, h1, h2, h3⟩ := h
  refine ⟨ao, c, h1, h2, fun hne => ?_⟩
  obtain ⟨b, off, e, hs, hc⟩ := h3 hne
  exact ⟨b, off, e, hs, fun i hi => ⟨cell_later hb (hc i hi).1, (hc i hi).2⟩⟩
theorem rdB_of_owns {w : World} {B : Nat} {v : Value} {bs : List Nat} {n : Nat} (h : w.ownsRow B 5 1 v n (u8s bs)) (hn : bs.length = n) (hm : n ≤ 2097152) (hb : ∀ x, x ∈ bs → x ≤ 255) : RdB w.heap.size w v bs := by
  subst hn
  rcases h.2 with ⟨rfl, e⟩ | ⟨g, cap, cur, rfl, hg, hh, _⟩
  · have : bs = [] := List.eq_nil_of_length_eq_zero e
    subst this
    exact ⟨none, 0, rfl, by simp, fun h => absurd rfl h⟩
  · have hgl : g < w.heap.size := (Array.getElem?_eq_some_iff.1 hh).1
    refine ⟨_, cap, rfl, hm, fun _ => ⟨g, 0, rfl, by omega, fun i hi => ⟨?_, ?_⟩⟩⟩
    · rw [Nat.zero_add, h.cellAt i (by omega)]
      simp [u8s, List.getD, hi]
    · have := hb bs[i] (List.getElem_mem hi)
      simpa [List.getD, hi] using this
theorem RdB.small {s : Nat} {w : World} {v : Value} {bs : List Nat} (h : RdB s w v bs) : ∀ x, x ∈ bs → x ≤ 255 := by
  intro x hx
  obtain ⟨i, hi, rfl⟩ := List.mem_iff_getElem.1 hx
  obtain ⟨_, _, _, _, h3⟩ := h
  obtain ⟨_, _, _, _, hc⟩ := h3 (by rintro rfl; simp at hi)
  have := (hc i hi).2
  simpa [List.getD, hi] using this

theorem rdI_ltF {S : Nat → Prop} {w : World} {v : Value} {xs : List Int} (h : RdI S w v xs) : RdI (fun b => S b ∧ b < w.heap.size) w v xs := by
  obtain ⟨ao, c, e1, e2, e3⟩ := h
  refine ⟨ao, c, e1, e2, fun hne => ?_⟩
  obtain ⟨b, off, f1, f2, f3⟩ := e3 hne
  exact ⟨b, off, f1, ⟨f2, World.block_lt_of_cell? _ _ (f3 0 (List.length_pos_iff.2 hne))⟩, f3⟩
theorem RdJ.ltF {S : Nat → Prop} {w : World} {v : Value} {fs : List Oj} (h : RdJ S w v fs) : RdJ (fun b => S b ∧ b < w.heap.size) w v fs := by
  obtain ⟨ao, c, e1, e2, e3⟩ := h
  refine ⟨ao, c, e1, e2, fun hne => ?_⟩
  obtain ⟨b, off, V, f1, f2, f3⟩ := e3 hne
  exact ⟨b, off, V, f1, ⟨f2, World.block_lt_of_cell? _ _ (f3 0 (List.length_pos_iff.2 hne)).1⟩, fun i hi => ⟨(f3 i hi).1, (f3 i hi).2.1, (f3 i hi).2.2.1, rdI_ltF (f3 i hi).2.2.2⟩⟩
theorem RdJ.narrowF {S T : Nat → Prop} {w : World} {v : Value} {fs : List Oj} (h : RdJ S w v fs) (hT : ∀ b, S b → T b) : RdJ T w v fs := by
  obtain ⟨ao, c, e1, e2, e3⟩ := h
  refine ⟨ao, c, e1, e2, fun hne => ?_⟩
  obtain ⟨b, off, V, f1, f2, f3⟩ := e3 hne
  exact ⟨b, off, V, f1, hT b f2, fun i hi => ⟨(f3 i hi).1, (f3 i hi).2.1, (f3 i hi).2.2.1, (f3 i hi).2.2.2.narrow (fun _ b hb => hT b hb)⟩⟩

set_option maxHeartbeats 4000000 in
set_option maxRecDepth 4000 in
theorem drawRenameFile {w : World} {v : Value} {bs : List Nat} (hv : RdB w.heap.size w v bs) (hbl : bs.length ≤ 1048576) :
    Calls Try.prog 18 #[v] w fun e w' => ∃ (ao : Option Addr) (n c : Nat) (fs : List Oj) (x y : Int), e = .returned (.tuple #[.slice ao n c, .int .i64 x, .int .i64 y]) ∧ fs.length = n ∧ n ≤ 5 ∧ (∀ p, p ∈ fs → p.2.2.length ≤ 6) ∧ Below w.heap.size w w' ∧ RdJ (w.heap.size + 1 ≤ ·) w' (.slice ao n c) fs := by
  have HV := hide hv
  obtain ⟨av, cv, hve, _⟩ := hv.src
  subst hve
  obtain ⟨i0, hi, hz0, hz1, hz2⟩ := info_parts Try.infoU8
  clear hv
  go_enter Try.func18, Try.ntmps18
  go_wp2_with fail
  refine (l8With HV.out).mono ?_
  rintro e w1 ⟨ao, n, c, fs, x, rfl, hn, hn5, hl, hb1, hr⟩
  have HN := hide hn
  have HL := hide hl
  have HB1 := hide hb1
  have HR := hide hr
  have hs1 := hb1.size
  have bA := below_alloc w1 (.cells #[.int .u8 4] 5)
  obtain ⟨a2, c2, e2, hsrc⟩ := ((HV.out.later hb1).later bA).src
  injection e2 with e3 _ _
  subst e3
  have HS := hide hsrc
  have HOw := hide (ownsRow_fullF w1 [.int .u8 4] 5 (by simp))
  have HBA := hide bA
  clear hn hl hb1 hr bA hsrc
  go_wp2_with (at_builtin; refine wpList_append_any _ rfl _ _ 22 rfl w1.heap.size 5 i0 (.int .u8 0) 1 1 Try.underlying22 hi hz0 hz1 hz2 rfl (by decide) _ 1 _ (by rfl) HOw.out av bs.length _ (u8s bs) (by rfl) (by simp [u8s]) HS.out (u8s_one _) (by unfold maxLen; omega) (by omega) (by simp) ?_; intro v' w3 hown hgrow)
  have hB3 : Below w1.heap.size w1 w3 := HBA.out.grown hgrow (by simp) (fun r hr => by simp [Value.ownBlock] at hr; omega)
  have HB3 := hide hB3
  have HRB : Hid (RdB w3.heap.size w3 v' (4 :: bs)) := rdB_of_owns hown (by simp; omega) (by omega) (fun z hz => by
    rcases List.mem_cons.1 hz with rfl | hz
    · omega
    · exact HV.out.small z hz)
  have HR3 := hide ((HR.out.ltF).later hB3)
  have hs3 := hB3.size
  obtain ⟨a3, c3, hv3⟩ := owns_shapeM hown
  subst hv3
  clear hown hgrow hB3
  go_wp2_with fail
  refine (l1Source HRB.out).mono ?_
  rintro e w4 ⟨rfl, hb4, hz4, hS4⟩
  have HB4 := hide (below_on HB3.out hb4)
  have HR4 := hide (HR3.out.later hb4)
  have HS4 := hide hS4
  have hz4' : w3.heap.size + 1 ≤ w4.heap.size := by omega
  obtain ⟨s, hs⟩ : ∃ s, w3.heap.size = s := ⟨_, rfl⟩
  rw [hs] at HS4 ⊢
  have HSs := hide hs
  have hs1s : w1.heap.size ≤ s := by omega
  have hs4 : s < w4.heap.size := by omega
  clear hb4 hz4 hS4 hs hz4'
  go_wp2_with fail
  refine (l1Next 7 HS4.out (by omega) (by omega) (by omega)).mono ?_
  rintro e w5 ⟨r5, rfl, r5a, r5b, t5, hd5⟩
  have r5c := r5b (by omega)
  have hw5 : IntKind.i64.wrap (1 + r5) = 1 + r5 := by simp [IntKind.wrap, IntKind.bits, IntKind.signed]; omega
  have D5 := hide hd5
  have hs5 := hd5.2.1.size
  have ht5 := hd5.2.2
  obtain ⟨p5, hp5⟩ : ∃ p, 1 + r5 = p := ⟨_, rfl⟩
  rw [hp5] at hw5
  clear hd5 r5b
  go_wp2_with fail
  refine (l1Next 7 D5.out.1 (by omega) (by omega) (by omega)).mono ?_
  rintro e w6 ⟨r6, rfl, r6a, r6b, t6, hd6⟩
  have r6c := r6b (by omega)
  have hw6 : IntKind.i64.wrap (1 + r6) = 1 + r6 := by simp [IntKind.wrap, IntKind.bits, IntKind.signed]; omega
  have D6 := hide (D5.out.on hd6)
  have hs6 := hd6.2.1.size
  have ht6 := D6.out.2.2
  obtain ⟨p6, hp6⟩ : ∃ p, 1 + r6 = p := ⟨_, rfl⟩
  rw [hp6] at hw6
  clear hd6 r6b
  have E6 := hide (D6.out.later (below_alloc w6 (.cells #[.int .i64 p5, .int .i64 p6, .int .i64 x, .int .i64 0, .int .i64 100] 2)))
  go_wp2_with fail
  refine (l1Pick (xs := [p5, p6, x, 0, 100]) E6.out.1 (by omega) (RdI_new s w6 [p5, p6, x, 0, 100] 2 (by omega) (by simp)) (by simp) (by simp)).mono ?_
  rintro e w7 ⟨i7, _, rfl, t7, hd7⟩
  obtain ⟨y, hy⟩ : ∃ y : Int, ([p5, p6, x, 0, 100] : List Int).getD i7 0 = y := ⟨_, rfl⟩
  rw [hy]
  have hD7 := E6.out.on hd7
  have HB7 := hide (below_on HB1.out (HB4.out.trans (hD7.2.1.below (by omega) (fun b hb => by omega))))
  have HR7 := hide ((HR4.out.wr hD7.2.1 (fun b hb e => by omega)).narrowF (T := (w.heap.size + 1 ≤ ·)) (fun b hb => hb.1))
  clear hD7 hd7 hy
  go_wp2
  exact bodyPost_ret (v := .tuple #[.slice ao n c, .int .i64 x, .int .i64 y]) (by simp [results, Try.results18]) rfl ⟨ao, n, c, fs, _, _, rfl, HN.out, hn5, HL.out, HB7.out, HR7.out⟩
end Go.Proofs.Ytbfdnjhdlnfpmaa
