/- Sn3 in one text: what each says stands at its head below. -/
import Derived.Test.YtiommfabhchgdaaG46
import Derived.Test.YtiommfabhchgdaaG38
/- Chapter 11: 'spec.l11Snap' on a pointer, walked. -/
namespace Go.Proofs.Ytiommfabhchgdaa
open Go.RowKit

theorem Ku.grownW {D : Nat → Prop} {a b c : World} {row : Option Nat} (h : Ku D a b) (hg : b.grownBy c row) (hr : ∀ r, row = some r → D r ∨ a.heap.size ≤ r) : Ku D a c :=
  ⟨hg.os.trans h.os, hg.tape.trans h.tape, hg.output.trans h.output, Nat.le_trans h.size hg.size, fun k hk hn => (hg.block k (Nat.lt_of_lt_of_le hk h.size) (fun e => by rcases hr k e.symm with h1 | h1; exact hn h1; omega)).trans (h.block k hk hn)⟩
theorem RdJ.at11 {S : Nat → Prop} {w : World} {ao : Option Addr} {n c k : Nat} {os : List Oj} (h : RdJ S w (.slice ao n c) os) (hk : k < os.length) :
    ∃ b off v, ao = some ⟨b, off, none⟩ ∧ S b ∧ w.cell? ⟨b, off + k * 3, none⟩ = some (.int .i64 (os.getD k oj0).1) ∧ w.cell? ⟨b, off + k * 3 + 1, none⟩ = some (.int .i64 (os.getD k oj0).2.1) ∧ w.cell? ⟨b, off + k * 3 + 2, none⟩ = some v ∧ RdI S w v (os.getD k oj0).2.2 := by
  obtain ⟨ao', c', e, _, h3⟩ := h
  injection e with e1 e2 e3
  subst e1
  obtain ⟨b, off, V, e, hs, hc⟩ := h3 (by rintro rfl; exact absurd hk (Nat.not_lt_zero _))
  obtain ⟨k0, k1, k2, k3⟩ := hc k hk
  exact ⟨b, off, V k, e, hs, k0, k1, k2, k3⟩
theorem RdI.at11 {S : Nat → Prop} {w : World} {ao : Option Addr} {n c : Nat} {xs : List Int} (h : RdI S w (.slice ao n c) xs) {k : Nat} (hk : k < xs.length) : ∃ b off, ao = some ⟨b, off, none⟩ ∧ S b ∧ w.cell? ⟨b, off + k, none⟩ = some (.int .i64 (xs.getD k 0)) := by
  obtain ⟨ao', c', e1, e2, e3⟩ := h
  obtain ⟨b, off, f1, f2, f3⟩ := e3 (by rintro rfl; simp at hk)
  injection e1 with e1 _ _
  exact ⟨b, off, by rw [e1, f1], f2, f3 k hk⟩
theorem l1MinI (a b : Int) (w : World) : Calls Try.prog 46 #[.int .i64 a, .int .i64 b] w fun e w' => e = .returned (.int .i64 (min a b)) ∧ w' = w := by
  go_enter Try.func46, Try.ntmps46
  by_cases h : a < b
  · go_wp2
    go_ret
    exact ⟨by rw [Int.min_eq_left (by omega)]; rfl, rfl⟩
  · go_wp2
    go_ret
    exact ⟨by rw [Int.min_eq_right (by omega)]; rfl, rfl⟩

set_option maxHeartbeats 4000000 in
set_option maxRecDepth 4000 in
theorem l11SnapP {S : Nat → Prop} {w : World} {bk : Nat} {y z : Value} (r : Rf) (hv : Var6 w bk (.int .i64 r.tm) (.int .i64 r.vt) (.int .i64 r.si) (.int .i64 r.st) y z) (hy : RdI S w y r.sn) (hl : r.sn.length ≤ 40) (hcy : capE y) :
    Calls Try.prog 23 #[.pointer (some ⟨bk, 0, none⟩)] w fun e w' => ∃ v, e = .returned v ∧ Below w.heap.size w w' ∧ OwP (fun b => w.heap.size ≤ b ∧ b < w'.heap.size) w' v (snP r) := by
  obtain ⟨ay, cy, rfl⟩ := hy.shape
  obtain ⟨i0, hi, hz0, hz1, hz2⟩ := info_parts Try.infoPut
  have hcy' : r.sn.length ≤ cy := hcy
  obtain ⟨q5, q8, qn⟩ := sbL_some hl
  have HV := hide hv
  have HF := hide (fun (w' : World) (hb : Below w.heap.size w w') => l11FileP r (hv.later hb) (hy.later hb) hl)
  have HY := hide hy
  obtain ⟨nb, hnb⟩ : ∃ n, (sbL r).length = n := ⟨_, rfl⟩
  have HNb := hide hnb
  rw [hnb] at q5 q8
  have hsf : (r.si = 0 → sfL r = [] ∧ nb = 0) ∧ (r.si ≠ 0 → sfL r = [(2, (r.sn.length : Int), sbL r)]) := by
    refine ⟨fun h => ⟨by unfold sfL; rw [if_pos h], ?_⟩, fun h => ?_⟩
    · rw [← hnb]; unfold sbL; rw [if_pos h]; rfl
    · unfold sfL sbL; rw [if_neg h, if_neg h]
  clear hv hy hcy hnb qn
  go_enter Try.func23, Try.ntmps23
  go_wp2_with fail
  refine (HF.out _ (below_alloc _ _)).mono ?_
  rintro e w1 ⟨f1, rfl, hb1, ho1⟩
  have hrd := ho1.rd
  have HB1 := hide (below_on (below_alloc w (.cells #[] 57)) hb1)
  have hs1 : w.heap.size + 1 ≤ w1.heap.size := by have := hb1.size; simpa using this
  have HE := hide ((BuiltP.empty w (fun x => x = w.heap.size ∨ w1.heap.size ≤ x) (Or.inl rfl) (snP r)).later hb1)
  by_cases h0 : r.si = 0
  · obtain ⟨e1, e2⟩ := hsf.1 h0
    rw [e1] at hrd
    obtain ⟨a1, c1, rfl, _⟩ := hrd.shape
    subst e2
    clear hrd ho1 hb1 HF hsf
    go_wp2
    go_loopw [3, 5] (fun v i wr => v = .slice (some ⟨w.heap.size, 0, none⟩) 0 0 ∧ i = .int .i64 0 ∧ wr = w1) (fun _ _ _ => 0)
    case atStart => exact ⟨rfl, rfl, rfl⟩
    case round =>
      obtain ⟨rfl, rfl, rfl⟩ := hrel
      go_wp2
      go_ret
      exact ⟨_, rfl, HB1.out, (HE.out.ow (by rw [snP_len, HNb.out]) (by omega)).mono fun b h => ⟨by have := h.1; omega, h.2⟩⟩
  · have e1 := hsf.2 h0
    rw [e1] at hrd
    obtain ⟨a1, c1, rfl, _⟩ := hrd.shape
    have HRd := hide hrd
    clear hrd ho1 hb1 HF hsf
    go_wp2
    go_loopw [3, 5] (fun v i wr => ∃ (j : Int) (k : Nat), i = .int .i64 j ∧ ((j = 0 ∧ k = 0) ∨ (j = 1 ∧ k = nb)) ∧ Hid (BuiltP (fun x => x = w.heap.size ∨ w1.heap.size ≤ x) wr v k (snP r)) ∧ Hid (Below w.heap.size w wr) ∧ Hid (Ku (fun x => x = w.heap.size) w1 wr)) (fun _ i _ => 1 - (intOf i).toNat)
    case atStart => exact ⟨0, 0, rfl, .inl ⟨rfl, rfl⟩, HE.out, HB1.out, Ku.refl _ _⟩
    case round =>
      obtain ⟨j, k, rfl, hjk, HBu, HB, HBB⟩ := hrel
      rcases hjk with ⟨rfl, rfl⟩ | ⟨rfl, rfl⟩
      · obtain ⟨av, cv, rfl⟩ := HBu.out.shape
        obtain ⟨b, off, vb, rfl, hsb, _, _, c2, qb⟩ := RdJ.at11 HRd.out (k := 0) (by simp)
        have c2' : w1.cell? ⟨b, off + 2, none⟩ = some vb := by simpa using c2
        have qb' : RdI (fun b => (w.alloc (.cells #[] 57)).heap.size ≤ b ∧ b < w1.heap.size) w1 vb (sbL r) := by simpa using qb
        obtain ⟨ab, cb, hvb⟩ := qb'.shape
        rw [HNb.out] at hvb
        subst hvb
        have HC2 := hide c2'
        have HQb := hide qb'
        simp only [World.size_alloc] at hsb
        have d2 := HBB.out.cell c2' (by omega)
        clear c2 qb c2' qb'
        go_wp2
        go_loopw [3, 6] (fun v i wr => ∃ k : Nat, k ≤ nb ∧ i = .int .i64 k ∧ Hid (BuiltP (fun x => x = w.heap.size ∨ w1.heap.size ≤ x) wr v k (snP r)) ∧ Hid (Below w.heap.size w wr) ∧ Hid (Ku (fun x => x = w.heap.size) w1 wr)) (fun _ i _ => nb - (intOf i).toNat)
        case atStart => exact ⟨0, Nat.zero_le _, rfl, HBu.out, HB.out, HBB.out⟩
        case round =>
          clear HBu HB HBB d2
          obtain ⟨k, hk, rfl, HBu, HB, HBB⟩ := hrel
          obtain ⟨av, cv, rfl⟩ := HBu.out.shape
          have d2 := HBB.out.cell HC2.out (by omega)
          by_cases hlt : k < nb
          · obtain ⟨bb, ob, rfl, hsbb, hx⟩ := HQb.out.at11 (k := k) (by rw [HNb.out]; exact hlt)
            simp only [World.size_alloc] at hsbb
            have hx' := HBB.out.cell hx (by omega)
            obtain ⟨x, hxe⟩ : ∃ x, (sbL r).getD k 0 = x := ⟨_, rfl⟩
            rw [hxe] at hx'
            have HXe := hide hxe
            obtain ⟨v0, v1, v2, v3, v4, v5⟩ := HV.out.later HB.out
            have hk1 : (k : Int) < (nb : Int) := by omega
            have hk0 : (0 : Int) ≤ (k : Int) := Int.natCast_nonneg _
            obtain ⟨en, hen⟩ : ∃ en : Nat, min ((r.sn.length : Nat) : Int) (((k : Int) + 1) * 8) = (en : Int) := ⟨min r.sn.length (8 * (k + 1)), by omega⟩
            have hen1 : 8 * k ≤ en := by omega
            have hen2 : en ≤ r.sn.length := by omega
            have hen3 : en - 8 * k = min (r.sn.length - 8 * k) 8 := by omega
            have HR := hide ((((HY.out.later HB.out).from (8 * k) (by omega)).upto (en - 8 * k) (by omega)))
            have HLk : Hid (((r.sn.drop (8 * k)).take (en - 8 * k)).length ≤ 1048576) := by unfold Hid; rw [List.length_take]; omega
            have HTk : Hid ((r.sn.drop (8 * k)).take (en - 8 * k) = (r.sn.drop (8 * k)).take 8) := by unfold Hid; rw [List.take_eq_take_iff, List.length_drop]; omega
            have HQ := hide (snP_at (r := r) (k := k) (by rw [HNb.out]; exact hlt))
            have hcn : ¬ cy = 8 * k := by omega
            obtain ⟨V2, Bk2, hown, hpr, hin⟩ := HBu.out
            have HOw0 := hide hown
            have HPr := hide hpr
            have HIn := hide hin
            have hz := HB.out.size
            have hzs := HBB.out.size
            have hbk : bk < w.heap.size := HV.out.lt
            have hne9 : ∀ q, (Value.slice av k cv).ownBlock = some q → q ≠ b ∧ q ≠ bb ∧ q ≠ bk := by
              intro q hq
              have h9 : q = w.heap.size ∨ w1.heap.size ≤ q := hpr q hq
              omega
            have HNe := hide hne9
            clear hne9
            clear hx hxe hown hpr hin HBu
            go_wp2_with (first | (go_at_call 46; refine (l1MinI _ _ _).mono ?_; rintro e w5 ⟨rfl, he5⟩; have he6 := he5.symm; clear he5; subst he6) | fail)
            obtain ⟨k8, hk8⟩ : ∃ k8 : Nat, (k : Int) * 8 = (k8 : Int) := ⟨8 * k, by omega⟩
            have hk8n : 8 * k = k8 := by omega
            rw [hk8n] at HR HLk HTk hcn
            have hwr : IntKind.i64.wrap (k8 : Int) = (k8 : Int) := by simp [IntKind.wrap, IntKind.bits, IntKind.signed]; omega
            have hlo : (0 : Int) ≤ (k8 : Int) := by omega
            have hle : (k8 : Int) ≤ (en : Int) := by omega
            have hec : (en : Int) ≤ (cy : Int) := by omega
            obtain ⟨lk, hlk⟩ : ∃ n, en - k8 = n := ⟨_, rfl⟩
            rw [hlk] at HR HLk HTk
            have hsA : slA ay cy k8 = ay.map (fun x => x.add k8) := by unfold slA; rw [if_neg hcn]
            rw [hsA] at HR
            clear hsA
            go_region_held3 (fun w' => w'.cell? ⟨b, off + 2, none⟩ = some (.slice (some ⟨bb, ob, none⟩) nb cb) ∧ w'.cell? ⟨bb, ob + k, none⟩ = some (.int .i64 x) ∧ w'.cell? ⟨bk, 4, none⟩ = some (.slice ay r.sn.length cy)) (first | exact ⟨d2, hx', v4⟩ | exact ⟨e0, e1, e2⟩ | exact ⟨cell_later (below_alloc _ _) e0, cell_later (below_alloc _ _) e1, cell_later (below_alloc _ _) e2⟩ | exact ⟨s0, s1, s2⟩)
              (first
                | (go_at_call 47; refine (l1Ints (HR.out.drewN 1) HLk.out).mono ?_; rintro e w2 ⟨z2, rfl, hb2, ho2⟩; rw [HTk.out] at ho2; obtain ⟨a4, c4, hz4⟩ := ho2.shape; obtain ⟨n4, hn4⟩ : ∃ n4, ((r.sn.drop (8 * k)).take 8).length = n4 := ⟨_, rfl⟩; rw [hk8n] at hn4; rw [hn4] at hz4; subst hz4; have HN4 := hide hn4; clear hn4; have e0 := cell_later hb2 d2; have e1 := cell_later hb2 hx'; have e2 := cell_later hb2 v4; have HB1 := hide (below_on (below_drewN wr 1) hb2); have HO1 := hide ho2; have hzz : wr.heap.size ≤ w2.heap.size := hb2.size; have hl0 : b < w2.heap.size := (by omega); have hl1 : bb < w2.heap.size := (by omega); have hl2 : bk < w2.heap.size := (by omega); clear hb2 ho2)
                | (refine step_append_lies _ (by rfl) _ _ _ (by rfl) 0 57 i0 (.agg #[.int .i64 0, .slice none 0 0]) 2 32 Try.underlying27 hi hz0 hz1 hz2 rfl (by omega) _ k _ (by rfl) (ownsRow_later (ownsRow_later HOw0.out HB1.out) (below_alloc w2 (.cells #[.int .i64 x, .slice a4 n4 c4] 57))) ⟨w2.heap.size, 0, none⟩ 1 1 [.int .i64 x, .slice a4 n4 c4] (by rfl) (by rfl) (World.news_of_block (cs := #[.int .i64 x, .slice a4 n4 c4]) (t := 57) (fr := (0, 0)) (heap_alloc_new w2 _)) cells2_one (by omega) (by unfold maxLen; omega) (by omega) (Nat.zero_le _) (w2.heap.size + 1) (by simp) ?_; intro g cap w3 hown3 hgrow hat hlt3; have s0 : w3.cell? ⟨b, off + 2, none⟩ = some (.slice (some ⟨bb, ob, none⟩) nb cb) := (hgrow.cell_far ⟨b, off + 2, none⟩ (Nat.lt_of_lt_of_le hl0 (below_alloc _ _).size) (fun e => (HNe.out _ e.symm).1 rfl)).trans (cell_later (below_alloc _ _) e0); have s1 : w3.cell? ⟨bb, ob + k, none⟩ = some (.int .i64 x) := (hgrow.cell_far ⟨bb, ob + k, none⟩ (Nat.lt_of_lt_of_le hl1 (below_alloc _ _).size) (fun e => (HNe.out _ e.symm).2.1 rfl)).trans (cell_later (below_alloc _ _) e1); have s2 : w3.cell? ⟨bk, 4, none⟩ = some (.slice ay r.sn.length cy) := (hgrow.cell_far ⟨bk, 4, none⟩ (Nat.lt_of_lt_of_le hl2 (below_alloc _ _).size) (fun e => (HNe.out _ e.symm).2.2 rfl)).trans (cell_later (below_alloc _ _) e2)))
            have HS := hide (BuiltP.step (P' := (fun x => x = w.heap.size ∨ w1.heap.size ≤ x)) HIn.out HOw0.out HPr.out (fun _ h => h) (fun b hb => Or.inr (Nat.le_trans hzs hb)) HB1.out (by rw [HQ.out, hk8n]; exact HO1.out) (below_alloc w2 (.cells #[.int .i64 x, .slice a4 n4 c4] 57)) (by rw [HQ.out, HXe.out]; exact hown3) hgrow (by simpa using hat))
            have HBn := hide (below_on (below_on HB.out HB1.out) (below_alloc w2 (.cells #[.int .i64 x, .slice a4 n4 c4] 57)))
            have HB3 := hide (HBn.out.grown hgrow (by simp; omega) (fun r hr => by have := HPr.out r hr; omega))
            have HBB3 := hide (((HBB.out.trans (Ku.of_below HB1.out)).trans (Ku.of_below (below_alloc w2 (.cells #[.int .i64 x, .slice a4 n4 c4] 57)))).grownW hgrow (fun r hr => HPr.out r hr))
            clear hown3 hgrow hat s0 s1 s2 e0 e1 e2 hzz
            go_wp2
            go_roundw
            case rel => exact ⟨k + 1, hlt, by go_num, HS.out, HB3.out, HBB3.out⟩
            case measure => simp [intOf]; omega
          · have hkn : k = nb := by omega
            subst hkn
            have hnl : ¬ (k : Int) < (k : Int) := by omega
            go_wp2
            exact ⟨⟨1, k, rfl, .inr ⟨rfl, rfl⟩, HBu, HB, HBB⟩, by simp [intOf]⟩
      · obtain ⟨av, cv, rfl⟩ := HBu.out.shape
        go_wp2
        go_ret
        exact ⟨_, rfl, HB.out, (HBu.out.ow (by rw [snP_len, HNb.out]) (by omega)).mono fun b h => ⟨by have := h.1; omega, h.2⟩⟩
end Go.Proofs.Ytiommfabhchgdaa
