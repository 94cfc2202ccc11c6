/- Fu2b Df1 Sn3 St2 in one text: what each says stands at its head below. -/
import Derived.Test.YtlmaopljihbdkaaGreatG33
import Derived.Test.YtlmaopljihbdkaaGreatG30
import Derived.Test.YtlmaopljihbdkaaGreatG32
import Derived.Test.YtlmaopljihbdkaaGreatG21
import Derived.Test.YtlmaopljihbdkaaGreatG15
import Derived.Test.YtlmaopljihbdkaaGreatG04
import Derived.Test.YtlmaopljihbdkaaGreatG13
import Derived.BigQuiet
import Derived.Test.YtlmaopljihbdkaaGreatG29
import Derived.Test.YtlmaopljihbdkaaGreatG18
import Derived.Test.YtlmaopljihbdkaaGreatG31
/- Chapter 8: 'UnpackDir' of the program, walked. -/
namespace Go.Proofs.YtlmaopljihbdkaaGreat
open Go.RowKit

theorem wordsF_in {xs : List Int} (h : wordsF xs = 0) : xs.length ≤ 64 ∧ ∀ x, x ∈ xs → 0 ≤ x ∧ x ≤ 65535 := by
  obtain ⟨h1, h2⟩ := wordsF_zero h
  refine ⟨h1, fun x hx => ?_⟩
  obtain ⟨i, hi, rfl⟩ := List.mem_iff_getElem.1 hx
  have := h2 i hi
  simpa [List.getD, hi] using this
theorem udC_bad {ws : List Int} (h : wordsF ws ≠ 0) : udC ws = wordsF ws ∧ udR ws = [] := by unfold udC udR; rw [if_neg h, if_neg h]; exact ⟨rfl, rfl⟩
theorem udC_nil : udC [] = 0 ∧ udR [] = [] := by
  unfold udC udR
  by_cases h : wordsF [] = 0
  · rw [if_pos h, if_pos h, if_pos rfl, if_pos rfl]; exact ⟨rfl, rfl⟩
  · exact absurd (by unfold wordsF wF; simp) h
theorem udC_yes {ws : List Int} (h : wordsF ws = 0) (hne : ws ≠ []) (hd : dirB ws = true) : udC ws = 0 ∧ udR ws = prI ws.tail := by unfold udC udR; rw [if_pos h, if_pos h, if_neg hne, if_neg hne, if_pos hd, if_pos hd]; exact ⟨rfl, rfl⟩
theorem udC_no {ws : List Int} (h : wordsF ws = 0) (hne : ws ≠ []) (hd : dirB ws = false) : udC ws = 5 ∧ udR ws = [] := by unfold udC udR; rw [if_pos h, if_pos h, if_neg hne, if_neg hne, if_neg (by rw [hd]; decide), if_neg (by rw [hd]; decide)]; exact ⟨rfl, rfl⟩

theorem Tryz.fldL (x : Int) (a : Option Addr) (n c : Nat) (w : World) : (Instr.field 166 (.agg #[.int .i64 x, .slice a n c]) 1).run Tryz.prog w = .ok (.slice a n c) w := by kernel_rfl
set_option maxHeartbeats 1000000 in
set_option maxRecDepth 4000 in
theorem implUnpackDir {S : Nat → Prop} {w : World} {v : Value} {ws : List Int} (hv : RdI S w v ws) :
    Calls Tryz.prog 98 #[v] w (EndsFi (udC ws) (udR ws) w) := by
  obtain ⟨ao, c, rfl⟩ := hv.shape
  have hml := hv.max
  have HV := hide hv
  clear hv
  obtain ⟨z, hz⟩ : ∃ z, wordsF ws = z := ⟨_, rfl⟩
  have HZ := hide hz
  clear hz
  have HC := hide (wordsFault (HV.out.later (below_alloc w (.cells #[.int .i64 0, .slice none 0 0] 139))))
  rw [HZ.out] at HC
  by_cases h0 : z = 0
  · subst h0
    obtain ⟨n, hn⟩ : ∃ n, ws.length = n := ⟨_, rfl⟩
    have HN := hide hn
    rw [hn] at HV HC hml ⊢
    clear hn
    have HIn := hide (wordsF_in HZ.out)
    by_cases hn0 : n = 0
    · have hnil : ws = [] := List.eq_nil_of_length_eq_zero (by rw [HN.out]; exact hn0)
      subst hn0 hnil
      rw [udC_nil.1, udC_nil.2]
      go_enter Tryz.func98, Tryz.ntmps98
      go_wp2_with fail
      refine HC.out.mono ?_
      rintro e w1 ⟨rfl, q, hq⟩
      have HRs : Hid (ResF w w1) := hq ▸ (ResF.start w 139).later (below_drewN _ q)
      have c0 := HRs.out.c0
      have c1 := HRs.out.c1
      have F0 := HRs.out.fr 0
      have F1 := HRs.out.fr 1
      clear hq
      go_wp2
      refine bodyPost_ret (v := .agg #[.int .i64 0, .slice none 0 0]) (by simp [results, Tryz.results98, go_sem, c0, c1]) rfl ⟨_, rfl, HRs.out.shut _ _, OwJ_nil _ _⟩
    · have hne : ws ≠ [] := by rintro rfl; exact hn0 HN.out.symm
      have hcap : n ≤ c := by obtain ⟨_, c', e, _⟩ := HV.out; injection e with _ e2 e3; omega
      obtain ⟨b, off, rfl, _⟩ := HV.out.at (k := 0) (by rw [HN.out]; omega)
      have HT := hide (HV.out.from 1 (by omega))
      have htl : ws.drop 1 = ws.tail := List.drop_one
      rw [htl] at HT
      obtain ⟨A, hA⟩ : ∃ A : Option Addr, (if c = 1 then some (⟨b, off, none⟩ : Addr) else some ⟨b, off + 1, none⟩) = A := ⟨_, rfl⟩
      have eA : slA (some ⟨b, off, none⟩) c 1 = A := by rw [← hA]; unfold slA; simp [Addr.add_lit]
      rw [eA] at HT
      have HPd := hide (dirB_pd hne)
      have HY := hide (fun h => udC_yes HZ.out hne h)
      have HNo := hide (fun h => udC_no HZ.out hne h)
      have HTm : Hid (ws.tail.length ≤ 64 ∧ ∀ x, x ∈ ws.tail → 0 ≤ x ∧ x ≤ 65535) := ⟨by have := HIn.out.1; simp; omega, fun x hx => HIn.out.2 x (List.mem_of_mem_tail hx)⟩
      have hn0b : ((n : Int) == 0) = false := by simp; omega
      have hnp : (1 : Int) ≤ (n : Int) := by omega
      have HPl := hide (Nat.le_trans (prs_len gI ws.tail.length ws.tail) HTm.out.1)
      clear htl eA
      go_enter Tryz.func98, Tryz.ntmps98
      go_wp2_with fail
      refine HC.out.mono ?_
      rintro e w1 ⟨rfl, q, hq⟩
      have HRs : Hid (ResF w w1) := hq ▸ (ResF.start w 139).later (below_drewN _ q)
      have hw1 := HRs.out.lt
      have HC2 := hide (filesIn (HT.out.later HRs.out.below) HTm.out.1 HTm.out.2)
      clear hq HC
      go_wp2_with fail
      refine HC2.out.mono ?_
      rintro e w2 ⟨z2, rfl, hb, ho⟩
      have HRs2 := hide (HRs.out.later hb)
      have HO := hide (ho.ow rfl (by have : (prI ws.tail).length ≤ 64 := HPl.out; omega))
      have HC3 := hide (implPackDir HO.out.rd)
      obtain ⟨a2, c2, hz2⟩ := ho.shape
      obtain ⟨l, hl⟩ : ∃ l, (prI ws.tail).length = l := ⟨_, rfl⟩
      rw [hl] at hz2
      subst hz2
      have hz2' := hb.size
      clear hb ho HC2 hl
      go_wp2_with fail
      refine HC3.out.mono ?_
      rintro e w3 ⟨z3, rfl, hb, ho⟩
      have HRs3 := hide (HRs2.out.later hb)
      have HO3 := hide (HO.out.wr (Wr.of_below hb fun _ => False) fun _ _ => id)
      have HC4 := hide (slicesEqualR ho.rd (HV.out.later HRs3.out.below))
      rw [HPd.out] at HC4
      obtain ⟨a3, c3, hz3⟩ := ho.rd.shape
      have hz3' := hb.size
      subst hz3
      have hfl := Tryz.fldL (pdC (prI ws.tail)) a3 (pdR (prI ws.tail)).length c3 w3
      clear hb ho HC3
      by_cases hd : dirB ws = true
      · rw [hd] at HC4
        have HY2 := hide (HY.out hd)
        go_wp2_with fail
        refine HC4.out.mono ?_
        rintro e w4 ⟨rfl, q, hq⟩
        have HRs4 : Hid (ResF w w4) := hq ▸ HRs3.out.later (below_drewN _ q)
        have HO4 : Hid (OwJ _ w4 (.slice a2 l c2) (prI ws.tail)) := hq ▸ HO3.out.wr (Wr.of_below (below_drewN _ q) fun _ => False) fun _ _ => id
        have hs4 : w4.heap.size = w3.heap.size := by rw [hq]; simp
        have HFn := hide (ret_files (x := .int .i64 0) HRs4.out.below (Nat.le_refl _) HO4.out (fun b hb => ⟨by have := hb.1; omega, by have := hb.2; omega⟩))
        have c0 := HRs4.out.c0
        have c1 := HRs4.out.c1
        have F0 := HRs4.out.fr 0
        have F1 := HRs4.out.fr 1
        clear hq HC4
        go_wp2
        refine bodyPost_ret (v := .agg #[.int .i64 0, .slice a2 l c2]) (by simp [results, Tryz.results98, go_sem, c0, c1]) rfl ⟨_, by rw [HY2.out.1], HFn.out.1, by rw [HY2.out.2]; exact HFn.out.2⟩
      · have hd' : dirB ws = false := by simpa using hd
        rw [hd'] at HC4
        have HN2 := hide (HNo.out hd')
        go_wp2_with fail
        refine HC4.out.mono ?_
        rintro e w4 ⟨rfl, q, hq⟩
        have HRs4 : Hid (ResF w w4) := hq ▸ HRs3.out.later (below_drewN _ q)
        have c0 := HRs4.out.c0
        have c1 := HRs4.out.c1
        have F0 := HRs4.out.fr 0
        have F1 := HRs4.out.fr 1
        clear hq HC4
        go_wp2
        refine bodyPost_ret (v := .agg #[.int .i64 5, .slice none 0 0]) (by simp [results, Tryz.results98, go_sem, c0, c1]) rfl ⟨_, by rw [HN2.out.1], HRs4.out.shut _ _, by rw [HN2.out.2]; exact OwJ_nil _ _⟩
  · have h0b : (z == 0) = false := by simpa using h0
    have HE := hide (udC_bad (ws := ws) (by rw [HZ.out]; exact h0))
    rw [HE.out.1, HE.out.2, HZ.out]
    obtain ⟨n, hn⟩ : ∃ n, ws.length = n := ⟨_, rfl⟩
    rw [hn] at HC ⊢
    clear hn
    go_enter Tryz.func98, Tryz.ntmps98
    go_wp2_with fail
    refine HC.out.mono ?_
    rintro e w1 ⟨rfl, q, hq⟩
    have HRs : Hid (ResF w w1) := hq ▸ (ResF.start w 139).later (below_drewN _ q)
    have c0 := HRs.out.c0
    have c1 := HRs.out.c1
    have F0 := HRs.out.fr 0
    have F1 := HRs.out.fr 1
    clear hq
    go_wp2
    refine bodyPost_ret (v := .agg #[.int .i64 z, .slice none 0 0]) (by simp [results, Tryz.results98, go_sem, c0, c1]) rfl ⟨_, rfl, HRs.out.shut _ _, OwJ_nil _ _⟩
end Go.Proofs.YtlmaopljihbdkaaGreat
/- Chapter 11: 'changedBlocks' tells what differs: the iterator's contract. -/
namespace Go.Proofs.YtlmaopljihbdkaaGreat
open Go.RowKit Go.Maps Go.Shelf
attribute [local go_sem] Oper.semAt_some

theorem yield_tb {e : Ending} {A B : Prop} (h : (e = .returned (.bool true) ∧ A) ∨ (e = .returned (.bool false) ∧ B)) : ∃ tb : Bool, e = .returned (.bool tb) ∧ ((tb = true ∧ A) ∨ (tb = false ∧ B)) := by
  rcases h with ⟨h1, h2⟩ | ⟨h1, h2⟩
  · exact ⟨true, h1, .inl ⟨rfl, h2⟩⟩
  · exact ⟨false, h1, .inr ⟨rfl, h2⟩⟩
theorem SeenS.empty {S : Nat → Prop} (w : World) : SeenS S (w.alloc (.map #[] 0)) w.heap.size 0 fun _ => [] :=
  ⟨_, World.ownsMap_made w Tryz.prog 2 asIs, fun a _ _ => ⟨.slice none 0 0, rfl, ⟨none, 0, rfl, Nat.zero_le _, fun h => absurd rfl h⟩⟩, fun a => ⟨fun h => absurd h (by simp [has_eq]), fun h => absurd rfl h.2.2⟩⟩

end Go.Proofs.YtlmaopljihbdkaaGreat
/- Chapter 11: 'spec.l11Snap' on a pointer, walked. -/
namespace Go.Proofs.YtlmaopljihbdkaaGreat
open Go.RowKit

theorem Ku.grownW {D : Nat → Prop} {a b c : World} {row : Option Nat} (h : Ku D a b) (hg : b.grownBy c row) (hr : ∀ r, row = some r → D r ∨ a.heap.size ≤ r) : Ku D a c :=
  ⟨hg.os.trans h.os, hg.tape.trans h.tape, hg.output.trans h.output, Nat.le_trans h.size hg.size, fun k hk hn => (hg.block k (Nat.lt_of_lt_of_le hk h.size) (fun e => by rcases hr k e.symm with h1 | h1; exact hn h1; omega)).trans (h.block k hk hn)⟩
theorem RdJ.at11 {S : Nat → Prop} {w : World} {ao : Option Addr} {n c k : Nat} {os : List Oj} (h : RdJ S w (.slice ao n c) os) (hk : k < os.length) :
    ∃ b off v, ao = some ⟨b, off, none⟩ ∧ S b ∧ w.cell? ⟨b, off + k * 3, none⟩ = some (.int .i64 (os.getD k oj0).1) ∧ w.cell? ⟨b, off + k * 3 + 1, none⟩ = some (.int .i64 (os.getD k oj0).2.1) ∧ w.cell? ⟨b, off + k * 3 + 2, none⟩ = some v ∧ RdI S w v (os.getD k oj0).2.2 := by
  obtain ⟨ao', c', e, _, h3⟩ := h
  injection e with e1 e2 e3
  subst e1
  obtain ⟨b, off, V, e, hs, hc⟩ := h3 (by rintro rfl; exact absurd hk (Nat.not_lt_zero _))
  obtain ⟨k0, k1, k2, k3⟩ := hc k hk
  exact ⟨b, off, V k, e, hs, k0, k1, k2, k3⟩
theorem RdI.at11 {S : Nat → Prop} {w : World} {ao : Option Addr} {n c : Nat} {xs : List Int} (h : RdI S w (.slice ao n c) xs) {k : Nat} (hk : k < xs.length) : ∃ b off, ao = some ⟨b, off, none⟩ ∧ S b ∧ w.cell? ⟨b, off + k, none⟩ = some (.int .i64 (xs.getD k 0)) := by
  obtain ⟨ao', c', e1, e2, e3⟩ := h
  obtain ⟨b, off, f1, f2, f3⟩ := e3 (by rintro rfl; simp at hk)
  injection e1 with e1 _ _
  exact ⟨b, off, by rw [e1, f1], f2, f3 k hk⟩
theorem l1MinI (a b : Int) (w : World) : Calls Tryz.prog 118 #[.int .i64 a, .int .i64 b] w fun e w' => e = .returned (.int .i64 (min a b)) ∧ w' = w := by
  go_enter Tryz.func118, Tryz.ntmps118
  by_cases h : a < b
  · go_wp2
    go_ret
    exact ⟨by rw [Int.min_eq_left (by omega)]; rfl, rfl⟩
  · go_wp2
    go_ret
    exact ⟨by rw [Int.min_eq_right (by omega)]; rfl, rfl⟩

set_option maxHeartbeats 4000000 in
set_option maxRecDepth 4000 in
theorem l11SnapP {S : Nat → Prop} {w : World} {bk : Nat} {y z : Value} (r : Rf) (hv : Var6 w bk (.int .i64 r.tm) (.int .i64 r.vt) (.int .i64 r.si) (.int .i64 r.st) y z) (hy : RdI S w y r.sn) (hl : r.sn.length ≤ 40) (hcy : capE y) :
    Calls Tryz.prog 69 #[.pointer (some ⟨bk, 0, none⟩)] w fun e w' => ∃ v, e = .returned v ∧ Below w.heap.size w w' ∧ OwP (fun b => w.heap.size ≤ b ∧ b < w'.heap.size) w' v (snP r) := by
  obtain ⟨ay, cy, rfl⟩ := hy.shape
  obtain ⟨i0, hi, hz0, hz1, hz2⟩ := info_parts Tryz.infoPut
  have hcy' : r.sn.length ≤ cy := hcy
  obtain ⟨q5, q8, qn⟩ := sbL_some hl
  have HV := hide hv
  have HF := hide (fun (w' : World) (hb : Below w.heap.size w w') => l11FileP r (hv.later hb) (hy.later hb) hl)
  have HY := hide hy
  obtain ⟨nb, hnb⟩ : ∃ n, (sbL r).length = n := ⟨_, rfl⟩
  have HNb := hide hnb
  rw [hnb] at q5 q8
  have hsf : (r.si = 0 → sfL r = [] ∧ nb = 0) ∧ (r.si ≠ 0 → sfL r = [(2, (r.sn.length : Int), sbL r)]) := by
    refine ⟨fun h => ⟨by unfold sfL; rw [if_pos h], ?_⟩, fun h => ?_⟩
    · rw [← hnb]; unfold sbL; rw [if_pos h]; rfl
    · unfold sfL sbL; rw [if_neg h, if_neg h]
  clear hv hy hcy hnb qn
  go_enter Tryz.func69, Tryz.ntmps69
  go_wp2_with fail
  refine (HF.out _ (below_alloc _ _)).mono ?_
  rintro e w1 ⟨f1, rfl, hb1, ho1⟩
  have hrd := ho1.rd
  have HB1 := hide (below_on (below_alloc w (.cells #[] 74)) hb1)
  have hs1 : w.heap.size + 1 ≤ w1.heap.size := by have := hb1.size; simpa using this
  have HE := hide ((BuiltP.empty w (fun x => x = w.heap.size ∨ w1.heap.size ≤ x) (Or.inl rfl) (snP r)).later hb1)
  by_cases h0 : r.si = 0
  · obtain ⟨e1, e2⟩ := hsf.1 h0
    rw [e1] at hrd
    obtain ⟨a1, c1, rfl, _⟩ := hrd.shape
    subst e2
    clear hrd ho1 hb1 HF hsf
    go_wp2
    go_loopw [3, 5] (fun v i wr => v = .slice (some ⟨w.heap.size, 0, none⟩) 0 0 ∧ i = .int .i64 0 ∧ wr = w1) (fun _ _ _ => 0)
    case atStart => exact ⟨rfl, rfl, rfl⟩
    case round =>
      obtain ⟨rfl, rfl, rfl⟩ := hrel
      go_wp2
      go_ret
      exact ⟨_, rfl, HB1.out, (HE.out.ow (by rw [snP_len, HNb.out]) (by omega)).mono fun b h => ⟨by have := h.1; omega, h.2⟩⟩
  · have e1 := hsf.2 h0
    rw [e1] at hrd
    obtain ⟨a1, c1, rfl, _⟩ := hrd.shape
    have HRd := hide hrd
    clear hrd ho1 hb1 HF hsf
    go_wp2
    go_loopw [3, 5] (fun v i wr => ∃ (j : Int) (k : Nat), i = .int .i64 j ∧ ((j = 0 ∧ k = 0) ∨ (j = 1 ∧ k = nb)) ∧ Hid (BuiltP (fun x => x = w.heap.size ∨ w1.heap.size ≤ x) wr v k (snP r)) ∧ Hid (Below w.heap.size w wr) ∧ Hid (Ku (fun x => x = w.heap.size) w1 wr)) (fun _ i _ => 1 - (intOf i).toNat)
    case atStart => exact ⟨0, 0, rfl, .inl ⟨rfl, rfl⟩, HE.out, HB1.out, Ku.refl _ _⟩
    case round =>
      obtain ⟨j, k, rfl, hjk, HBu, HB, HBB⟩ := hrel
      rcases hjk with ⟨rfl, rfl⟩ | ⟨rfl, rfl⟩
      · obtain ⟨av, cv, rfl⟩ := HBu.out.shape
        obtain ⟨b, off, vb, rfl, hsb, _, _, c2, qb⟩ := RdJ.at11 HRd.out (k := 0) (by simp)
        have c2' : w1.cell? ⟨b, off + 2, none⟩ = some vb := by simpa using c2
        have qb' : RdI (fun b => (w.alloc (.cells #[] 74)).heap.size ≤ b ∧ b < w1.heap.size) w1 vb (sbL r) := by simpa using qb
        obtain ⟨ab, cb, hvb⟩ := qb'.shape
        rw [HNb.out] at hvb
        subst hvb
        have HC2 := hide c2'
        have HQb := hide qb'
        simp only [World.size_alloc] at hsb
        have d2 := HBB.out.cell c2' (by omega)
        clear c2 qb c2' qb'
        go_wp2
        go_loopw [3, 6] (fun v i wr => ∃ k : Nat, k ≤ nb ∧ i = .int .i64 k ∧ Hid (BuiltP (fun x => x = w.heap.size ∨ w1.heap.size ≤ x) wr v k (snP r)) ∧ Hid (Below w.heap.size w wr) ∧ Hid (Ku (fun x => x = w.heap.size) w1 wr)) (fun _ i _ => nb - (intOf i).toNat)
        case atStart => exact ⟨0, Nat.zero_le _, rfl, HBu.out, HB.out, HBB.out⟩
        case round =>
          clear HBu HB HBB d2
          obtain ⟨k, hk, rfl, HBu, HB, HBB⟩ := hrel
          obtain ⟨av, cv, rfl⟩ := HBu.out.shape
          have d2 := HBB.out.cell HC2.out (by omega)
          by_cases hlt : k < nb
          · obtain ⟨bb, ob, rfl, hsbb, hx⟩ := HQb.out.at11 (k := k) (by rw [HNb.out]; exact hlt)
            simp only [World.size_alloc] at hsbb
            have hx' := HBB.out.cell hx (by omega)
            obtain ⟨x, hxe⟩ : ∃ x, (sbL r).getD k 0 = x := ⟨_, rfl⟩
            rw [hxe] at hx'
            have HXe := hide hxe
            obtain ⟨v0, v1, v2, v3, v4, v5⟩ := HV.out.later HB.out
            have hk1 : (k : Int) < (nb : Int) := by omega
            have hk0 : (0 : Int) ≤ (k : Int) := Int.natCast_nonneg _
            obtain ⟨en, hen⟩ : ∃ en : Nat, min ((r.sn.length : Nat) : Int) (((k : Int) + 1) * 8) = (en : Int) := ⟨min r.sn.length (8 * (k + 1)), by omega⟩
            have hen1 : 8 * k ≤ en := by omega
            have hen2 : en ≤ r.sn.length := by omega
            have hen3 : en - 8 * k = min (r.sn.length - 8 * k) 8 := by omega
            have HR := hide ((((HY.out.later HB.out).from (8 * k) (by omega)).upto (en - 8 * k) (by omega)))
            have HLk : Hid (((r.sn.drop (8 * k)).take (en - 8 * k)).length ≤ 1048576) := by unfold Hid; rw [List.length_take]; omega
            have HTk : Hid ((r.sn.drop (8 * k)).take (en - 8 * k) = (r.sn.drop (8 * k)).take 8) := by unfold Hid; rw [List.take_eq_take_iff, List.length_drop]; omega
            have HQ := hide (snP_at (r := r) (k := k) (by rw [HNb.out]; exact hlt))
            have hcn : ¬ cy = 8 * k := by omega
            obtain ⟨V2, Bk2, hown, hpr, hin⟩ := HBu.out
            have HOw0 := hide hown
            have HPr := hide hpr
            have HIn := hide hin
            have hz := HB.out.size
            have hzs := HBB.out.size
            have hbk : bk < w.heap.size := HV.out.lt
            have hne9 : ∀ q, (Value.slice av k cv).ownBlock = some q → q ≠ b ∧ q ≠ bb ∧ q ≠ bk := by
              intro q hq
              have h9 : q = w.heap.size ∨ w1.heap.size ≤ q := hpr q hq
              omega
            have HNe := hide hne9
            clear hne9
            clear hx hxe hown hpr hin HBu
            go_wp2_with (first | (go_at_call 118; refine (l1MinI _ _ _).mono ?_; rintro e w5 ⟨rfl, he5⟩; have he6 := he5.symm; clear he5; subst he6) | fail)
            obtain ⟨k8, hk8⟩ : ∃ k8 : Nat, (k : Int) * 8 = (k8 : Int) := ⟨8 * k, by omega⟩
            have hk8n : 8 * k = k8 := by omega
            rw [hk8n] at HR HLk HTk hcn
            have hwr : IntKind.i64.wrap (k8 : Int) = (k8 : Int) := by simp [IntKind.wrap, IntKind.bits, IntKind.signed]; omega
            have hlo : (0 : Int) ≤ (k8 : Int) := by omega
            have hle : (k8 : Int) ≤ (en : Int) := by omega
            have hec : (en : Int) ≤ (cy : Int) := by omega
            obtain ⟨lk, hlk⟩ : ∃ n, en - k8 = n := ⟨_, rfl⟩
            rw [hlk] at HR HLk HTk
            have hsA : slA ay cy k8 = ay.map (fun x => x.add k8) := by unfold slA; rw [if_neg hcn]
            rw [hsA] at HR
            clear hsA
            go_region_held3 (fun w' => w'.cell? ⟨b, off + 2, none⟩ = some (.slice (some ⟨bb, ob, none⟩) nb cb) ∧ w'.cell? ⟨bb, ob + k, none⟩ = some (.int .i64 x) ∧ w'.cell? ⟨bk, 4, none⟩ = some (.slice ay r.sn.length cy)) (first | exact ⟨d2, hx', v4⟩ | exact ⟨e0, e1, e2⟩ | exact ⟨cell_later (below_alloc _ _) e0, cell_later (below_alloc _ _) e1, cell_later (below_alloc _ _) e2⟩ | exact ⟨s0, s1, s2⟩)
              (first
                | (go_at_call 119; refine (l1Ints (HR.out.drewN 1) HLk.out).mono ?_; rintro e w2 ⟨z2, rfl, hb2, ho2⟩; rw [HTk.out] at ho2; obtain ⟨a4, c4, hz4⟩ := ho2.shape; obtain ⟨n4, hn4⟩ : ∃ n4, ((r.sn.drop (8 * k)).take 8).length = n4 := ⟨_, rfl⟩; rw [hk8n] at hn4; rw [hn4] at hz4; subst hz4; have HN4 := hide hn4; clear hn4; have e0 := cell_later hb2 d2; have e1 := cell_later hb2 hx'; have e2 := cell_later hb2 v4; have HB1 := hide (below_on (below_drewN wr 1) hb2); have HO1 := hide ho2; have hzz : wr.heap.size ≤ w2.heap.size := hb2.size; have hl0 : b < w2.heap.size := (by omega); have hl1 : bb < w2.heap.size := (by omega); have hl2 : bk < w2.heap.size := (by omega); clear hb2 ho2)
                | (refine step_append_lies _ (by rfl) _ _ _ (by rfl) 0 74 i0 (.agg #[.int .i64 0, .slice none 0 0]) 2 32 Tryz.underlying27 hi hz0 hz1 hz2 rfl (by omega) _ k _ (by rfl) (ownsRow_later (ownsRow_later HOw0.out HB1.out) (below_alloc w2 (.cells #[.int .i64 x, .slice a4 n4 c4] 74))) ⟨w2.heap.size, 0, none⟩ 1 1 [.int .i64 x, .slice a4 n4 c4] (by rfl) (by rfl) (World.news_of_block (cs := #[.int .i64 x, .slice a4 n4 c4]) (t := 74) (fr := (0, 0)) (heap_alloc_new w2 _)) cells2_one (by omega) (by unfold maxLen; omega) (by omega) (Nat.zero_le _) (w2.heap.size + 1) (by simp) ?_; intro g cap w3 hown3 hgrow hat hlt3; have s0 : w3.cell? ⟨b, off + 2, none⟩ = some (.slice (some ⟨bb, ob, none⟩) nb cb) := (hgrow.cell_far ⟨b, off + 2, none⟩ (Nat.lt_of_lt_of_le hl0 (below_alloc _ _).size) (fun e => (HNe.out _ e.symm).1 rfl)).trans (cell_later (below_alloc _ _) e0); have s1 : w3.cell? ⟨bb, ob + k, none⟩ = some (.int .i64 x) := (hgrow.cell_far ⟨bb, ob + k, none⟩ (Nat.lt_of_lt_of_le hl1 (below_alloc _ _).size) (fun e => (HNe.out _ e.symm).2.1 rfl)).trans (cell_later (below_alloc _ _) e1); have s2 : w3.cell? ⟨bk, 4, none⟩ = some (.slice ay r.sn.length cy) := (hgrow.cell_far ⟨bk, 4, none⟩ (Nat.lt_of_lt_of_le hl2 (below_alloc _ _).size) (fun e => (HNe.out _ e.symm).2.2 rfl)).trans (cell_later (below_alloc _ _) e2)))
            have HS := hide (BuiltP.step (P' := (fun x => x = w.heap.size ∨ w1.heap.size ≤ x)) HIn.out HOw0.out HPr.out (fun _ h => h) (fun b hb => Or.inr (Nat.le_trans hzs hb)) HB1.out (by rw [HQ.out, hk8n]; exact HO1.out) (below_alloc w2 (.cells #[.int .i64 x, .slice a4 n4 c4] 74)) (by rw [HQ.out, HXe.out]; exact hown3) hgrow (by simpa using hat))
            have HBn := hide (below_on (below_on HB.out HB1.out) (below_alloc w2 (.cells #[.int .i64 x, .slice a4 n4 c4] 74)))
            have HB3 := hide (HBn.out.grown hgrow (by simp; omega) (fun r hr => by have := HPr.out r hr; omega))
            have HBB3 := hide (((HBB.out.trans (Ku.of_below HB1.out)).trans (Ku.of_below (below_alloc w2 (.cells #[.int .i64 x, .slice a4 n4 c4] 74)))).grownW hgrow (fun r hr => HPr.out r hr))
            clear hown3 hgrow hat s0 s1 s2 e0 e1 e2 hzz
            go_wp2
            go_roundw
            case rel => exact ⟨k + 1, hlt, by go_num, HS.out, HB3.out, HBB3.out⟩
            case measure => simp [intOf]; omega
          · have hkn : k = nb := by omega
            subst hkn
            have hnl : ¬ (k : Int) < (k : Int) := by omega
            go_wp2
            exact ⟨⟨1, k, rfl, .inr ⟨rfl, rfl⟩, HBu, HB, HBB⟩, by simp [intOf]⟩
      · obtain ⟨av, cv, rfl⟩ := HBu.out.shape
        go_wp2
        go_ret
        exact ⟨_, rfl, HB.out, (HBu.out.ow (by rw [snP_len, HNb.out]) (by omega)).mono fun b h => ⟨by have := h.1; omega, h.2⟩⟩
end Go.Proofs.YtlmaopljihbdkaaGreat
/- Chapter 11: the blocks of a store's entries, told one by one: the iterator's contract. -/
namespace Go.Proofs.YtlmaopljihbdkaaGreat
open Go.RowKit Go.Shelf
attribute [local go_sem] Oper.semAt_some

theorem yield_tb2 {e : Ending} {A B : Prop} (h : (e = .returned (.bool true) ∧ A) ∨ (e = .returned (.bool false) ∧ B)) : ∃ tb : Bool, e = .returned (.bool tb) ∧ ((tb = true ∧ A) ∨ (tb = false ∧ B)) := by
  rcases h with ⟨h1, h2⟩ | ⟨h1, h2⟩
  · exact ⟨true, h1, .inl ⟨rfl, h2⟩⟩
  · exact ⟨false, h1, .inr ⟨rfl, h2⟩⟩
theorem enP_len (r : Rf) : (enP r).length = r.lg.length := by simp [enP]
theorem enP_at {r : Rf} {k : Nat} (h : k < r.lg.length) : (enP r).getD k (0, []) = (sfV (r.lg.getD k oj0).1, peR (r.lg.getD k oj0)) := by
  simp [enP, List.getD, h]

set_option maxRecDepth 100000 in
set_option maxHeartbeats 8000000 in
theorem entrySeq {T : Nat → Prop} {w : World} {Bp : Nat} {z : Value} (r : Rf) (v5 : w.cell? ⟨Bp, 5, none⟩ = some z)
    (hz : RdJ T w z r.lg) (hl : r.lg.length ≤ 1048576) (hT : ∀ b, T b → b < w.heap.size) (m : Nat) :
    SeqG m Tryz.prog 135 #[.pointer (some ⟨Bp, 0, none⟩)] T (enP r) w := fun l J Jx D0 W hW hD hJ hJx _ _ hJb hY h0 => by
  obtain ⟨az, cz, rfl, _⟩ := hz.shape
  have u5 := cell_later hW v5
  have hTW : ∀ b, T b → b < W.heap.size := fun b hb => Nat.lt_of_lt_of_le (hT b hb) hW.size
  have HTW := hide hTW
  have HZ := hide (hz.later hW)
  have HD := hide hD
  have HYd := hide hY
  have H0 := hide h0
  have fld1 := Tryz.fldIs1
  have fld2 := Tryz.fldIr1
  obtain ⟨n, hn⟩ : ∃ n, r.lg.length = n := ⟨_, rfl⟩
  have HN := hide hn
  rw [hn] at u5 HZ hl
  have hmx : Tryz.prog.follows .mixedOrders = true := by kernel_rfl
  clear v5 hz hT hW hD hJ hJx hJb hY h0 hTW hn
  refine callsIn_of_wp Tryz.func135 rfl trivial ?_ rfl
  simp only [Tryz.ntmps135, List.size_toArray, List.length_cons, List.length_nil, Nat.reduceAdd, Nat.reduceSub, Array.replicate_succ, Array.replicate_zero, List.push_toArray, List.append_toArray, List.nil_append, List.cons_append]
  gi_wp2
  gi_loopw [8] (fun q wr => ∃ (i : Nat) (D : Nat → Prop), q = .int .i64 i ∧ i ≤ n ∧ Hid (J D i wr) ∧ Hid (∀ b, D b → ¬ T b) ∧ Hid (RdJ T wr (.slice az n cz) r.lg) ∧ W.heap.size ≤ wr.heap.size) (fun q _ => n - (intOf q).toNat)
  case atStart => exact ⟨0, D0, rfl, Nat.zero_le _, H0.out, HD.out, HZ.out, Nat.le_refl _⟩
  case round =>
    clear HZ H0 u5
    obtain ⟨i, D, rfl, hin, HJk, HDk, HZk, hsz⟩ := hrel
    rcases Nat.lt_or_ge i n with hlt | hge
    · obtain ⟨b, off, vv, rfl, _, q0, q1, q2, q3⟩ := RdJ.at11 HZk.out (k := i) (by rw [HN.out]; exact hlt)
      obtain ⟨a3, c3, rfl⟩ := q3.shape
      have HQ := hide (enP_at (r := r) (k := i) (by rw [HN.out]; exact hlt))
      obtain ⟨pp, hpp⟩ : ∃ p, r.lg.getD i oj0 = p := ⟨_, rfl⟩
      rw [hpp] at q0 q1 q2 q3 HQ
      obtain ⟨x, t, ws⟩ := pp
      dsimp only at q0 q1 q2 q3 HQ
      obtain ⟨lx, hlx⟩ : ∃ l, ws.length = l := ⟨_, rfl⟩
      rw [hlx] at q2 q3
      have hii : (i : Int) < (n : Int) := by omega
      have hi0 : (0 : Int) ≤ (i : Int) := by omega
      have hni : (n : Int) ≤ 1048576 := by omega
      obtain ⟨WA, hWA⟩ : ∃ WA, wr.alloc (.cells #[.int .i64 x, .int .i64 t, .slice a3 lx c3] 110) = WA := ⟨_, rfl⟩
      have hbA : Below wr.heap.size wr WA := by rw [← hWA]; exact below_alloc _ _
      have p0 : WA.drew.cell? ⟨wr.heap.size, 0, none⟩ = some (.int .i64 x) := by rw [← hWA]; simp [go_sem]
      have p1 : WA.drew.cell? ⟨wr.heap.size, 1, none⟩ = some (.int .i64 t) := by rw [← hWA]; simp [go_sem]
      have p2 : WA.drew.cell? ⟨wr.heap.size, 2, none⟩ = some (.slice a3 lx c3) := by rw [← hWA]; simp [go_sem]
      have HBc := hide (below_on hbA (below_drewN WA 1))
      have HR3 := hide (q3.later HBc.out)
      have hszA : WA.heap.size = wr.heap.size + 1 := by rw [← hWA]; simp
      have HLt := hide hlt
      clear hlx hpp hbA
      gi_wp2
      (try rw [hWA])
      clear hWA q0 q1 q2 q3
      gi_region_with_o (first
        | (refine ⟨trivial, fun h => (by simp [Fence.wide] at h), ?_⟩; gi_at_call 99; refine (callsIn_wide.2 (implSlotFor x _)).mono ?_; rintro e w5 ⟨rfl, hb5⟩; have HR5 := hide (HR3.out.later hb5); have HB5 := hide (below_on HBc.out hb5); have p0 := cell_later hb5 p0; have p1 := cell_later hb5 p1; have p2 := cell_later hb5 p2; clear HR3 HBc; have HR3 := HR5; have HBc := HB5; clear HR5 HB5; (first | (have HO7 := hide (HOw.out.later hb5); clear HOw; have HOw := HO7; clear HO7 hb5 hyy; obtain ⟨fn, tmps, assign, body, hyy0, hR⟩ := HYd.out D i (sfV x) _ wr w5 HJk.out HBc.out (by rw [enP_len, HN.out]; exact HLt.out) (by rw [HQ.out]) (by rw [HQ.out]; exact HOw.out); have hyy : (Instr.yield l #[.agg #[.int .i64 (sfV x), .slice a6 n6 c6]]).run Tryz.prog w5 = .ok (.round l fn tmps assign body) w5 := hyy0; clear hyy0) | clear hb5))
        | (refine ⟨trivial, fun h => (by simp [Fence.wide] at h), ?_⟩; gi_at_call 136; refine (callsIn_wide.2 (implPackEntry x t HR3.out)).mono ?_; rintro e w6 ⟨z6, rfl, hb6, ho6⟩; obtain ⟨a6, c6, hz6⟩ := ho6.shape; obtain ⟨n6, hn6⟩ : ∃ n, (peR (x, t, ws)).length = n := ⟨_, rfl⟩; rw [hn6] at hz6; subst hz6; clear hn6; have HR5 := hide (HR3.out.later hb6); have hszB := HBc.out.size; have HB5 := hide (below_on HBc.out hb6); have p0 := cell_later hb6 p0; have p1 := cell_later hb6 p1; have p2 := cell_later hb6 p2; clear HR3 HBc; have HR3 := HR5; have HBc := HB5; clear HR5 HB5; have HOw := hide (ho6.mono hszB); clear hb6 ho6 hszB; obtain ⟨fn, tmps, assign, body, hyy0, hR⟩ := HYd.out D i (sfV x) _ wr w6 HJk.out HBc.out (by rw [enP_len, HN.out]; exact HLt.out) (by rw [HQ.out]) (by rw [HQ.out]; exact HOw.out); have hyy : (Instr.yield l #[.agg #[.int .i64 (sfV x), .slice a6 n6 c6]]).run Tryz.prog w6 = .ok (.round l fn tmps assign body) w6 := hyy0; clear hyy0)
        | (refine ⟨fun h => (by simp [Fence.wide] at h), hR.mono ?_⟩; rintro e W3 hor; obtain ⟨tb, rfl, hcase⟩ := yield_tb2 hor; clear hor hyy))
      all_goals
        have HZ6 := hide (HZk.out.later HBc.out)
        have hs6 := HBc.out.size
        clear HZk HJk HBc HR3 HOw p0 p1 p2
        rcases hcase with ⟨rfl, D', hJ3, hk3, hD3⟩ | ⟨rfl, hJx3, _⟩
        · have HDn : Hid (∀ b, D' b → ¬ T b) := fun b hb hTb => by
            rcases hD3 b hb with h | h
            · exact HDk.out b h hTb
            · have := HTW.out b hTb; omega
          have HZ7 := hide (HZ6.out.ku hk3 (fun b hb h => HDk.out b h hb))
          have hs7 := hk3.size
          have HJ7 := hide hJ3
          clear hJ3 hk3 hD3 HZ6
          gi_wp2
          go_roundw
          case rel => exact ⟨i + 1, D', by simp, by omega, HJ7.out, HDn.out, HZ7.out, by omega⟩
          case measure => simp [intOf]; omega
        · have HJx3 := hide hJx3
          clear hJx3
          gi_wp2
          refine bodyPost_ret (results_none rfl _ _ _) rfl ?_
          exact ⟨⟨_, rfl⟩, .inr HJx3.out⟩
    · have hi : i = n := by omega
      subst hi
      have HJn : Hid (J D (enP r).length wr) := by rw [Hid, enP_len, HN.out]; exact HJk.out
      have hnl : ¬ (i : Int) < (i : Int) := by omega
      clear HJk
      gi_wp2
      go_end0
      exact ⟨⟨_, rfl⟩, .inl ⟨D, HJn.out⟩⟩
end Go.Proofs.YtlmaopljihbdkaaGreat
