/- Sn3 St2 St2b in one text: what each says stands at its head below. -/
import Derived.Test.YtlmaopljihbdkaaGreatG32
import Derived.Test.YtlmaopljihbdkaaGreatG15
import Derived.Test.YtlmaopljihbdkaaGreatG33
namespace Go.Proofs.YtlmaopljihbdkaaGreat
open Go.RowKit
theorem Ku.grownW {D : Nat → Prop} {a b c : World} {row : Option Nat} (h : Ku D a b) (hg : b.grownBy c row) (hr : ∀ r, row = some r → D r ∨ a.heap.size ≤ r) : Ku D a c :=
  ⟨hg.os.trans h.os, hg.tape.trans h.tape, hg.output.trans h.output, Nat.le_trans h.size hg.size, fun k hk hn => (hg.block k (Nat.lt_of_lt_of_le hk h.size) (fun e => by rcases hr k e.symm with h1 | h1; exact hn h1; omega)).trans (h.block k hk hn)⟩
theorem RdJ.at11 {S : Nat → Prop} {w : World} {ao : Option Addr} {n c k : Nat} {os : List Oj} (h : RdJ S w (.slice ao n c) os) (hk : k < os.length) :
    ∃ b off v, ao = some ⟨b, off, none⟩ ∧ S b ∧ w.cell? ⟨b, off + k * 3, none⟩ = some (.int .i64 (os.getD k oj0).1) ∧ w.cell? ⟨b, off + k * 3 + 1, none⟩ = some (.int .i64 (os.getD k oj0).2.1) ∧ w.cell? ⟨b, off + k * 3 + 2, none⟩ = some v ∧ RdI S w v (os.getD k oj0).2.2 := by
  obtain ⟨ao', c', e, _, h3⟩ := h
  injection e with e1 e2 e3
  subst e1
  obtain ⟨b, off, V, e, hs, hc⟩ := h3 (by rintro rfl; exact absurd hk (Nat.not_lt_zero _))
  obtain ⟨k0, k1, k2, k3⟩ := hc k hk
  exact ⟨b, off, V k, e, hs, k0, k1, k2, k3⟩
theorem RdI.at11 {S : Nat → Prop} {w : World} {ao : Option Addr} {n c : Nat} {xs : List Int} (h : RdI S w (.slice ao n c) xs) {k : Nat} (hk : k < xs.length) : ∃ b off, ao = some ⟨b, off, none⟩ ∧ S b ∧ w.cell? ⟨b, off + k, none⟩ = some (.int .i64 (xs.getD k 0)) := by
  obtain ⟨ao', c', e1, e2, e3⟩ := h
  obtain ⟨b, off, f1, f2, f3⟩ := e3 (by rintro rfl; simp at hk)
  injection e1 with e1 _ _
  exact ⟨b, off, by rw [e1, f1], f2, f3 k hk⟩
theorem l1MinI (a b : Int) (w : World) : Calls Tryz.prog 118 #[.int .i64 a, .int .i64 b] w fun e w' => e = .returned (.int .i64 (min a b)) ∧ w' = w := by
  go_enter Tryz.func118, Tryz.ntmps118
  by_cases h : a < b
  · go_wp2
    go_ret
    exact ⟨by rw [Int.min_eq_left (by omega)]; rfl, rfl⟩
  · go_wp2
    go_ret
    exact ⟨by rw [Int.min_eq_right (by omega)]; rfl, rfl⟩
set_option maxHeartbeats 4000000 in
set_option maxRecDepth 4000 in
theorem l11SnapP {S : Nat → Prop} {w : World} {bk : Nat} {y z : Value} (r : Rf) (hv : Var6 w bk (.int .i64 r.tm) (.int .i64 r.vt) (.int .i64 r.si) (.int .i64 r.st) y z) (hy : RdI S w y r.sn) (hl : r.sn.length ≤ 40) (hcy : capE y) :
    Calls Tryz.prog 69 #[.pointer (some ⟨bk, 0, none⟩)] w fun e w' => ∃ v, e = .returned v ∧ Below w.heap.size w w' ∧ OwP (fun b => w.heap.size ≤ b ∧ b < w'.heap.size) w' v (snP r) := by
  obtain ⟨ay, cy, rfl⟩ := hy.shape
  obtain ⟨i0, hi, hz0, hz1, hz2⟩ := info_parts Tryz.infoPut
  have hcy' : r.sn.length ≤ cy := hcy
  obtain ⟨q5, q8, qn⟩ := sbL_some hl
  have HV := hide hv
  have HF := hide (fun (w' : World) (hb : Below w.heap.size w w') => l11FileP r (hv.later hb) (hy.later hb) hl)
  have HY := hide hy
  obtain ⟨nb, hnb⟩ : ∃ n, (sbL r).length = n := ⟨_, rfl⟩
  have HNb := hide hnb
  rw [hnb] at q5 q8
  have hsf : (r.si = 0 → sfL r = [] ∧ nb = 0) ∧ (r.si ≠ 0 → sfL r = [(2, (r.sn.length : Int), sbL r)]) := by
    refine ⟨fun h => ⟨by unfold sfL; rw [if_pos h], ?_⟩, fun h => ?_⟩
    · rw [← hnb]; unfold sbL; rw [if_pos h]; rfl
    · unfold sfL sbL; rw [if_neg h, if_neg h]
  clear hv hy hcy hnb qn
  go_enter Tryz.func69, Tryz.ntmps69
  go_wp2_with fail
  refine (HF.out _ (below_alloc _ _)).mono ?_
  rintro e w1 ⟨f1, rfl, hb1, ho1⟩
  have hrd := ho1.rd
  have HB1 := hide (below_on (below_alloc w (.cells #[] 74)) hb1)
  have hs1 : w.heap.size + 1 ≤ w1.heap.size := by have := hb1.size; simpa using this
  have HE := hide ((BuiltP.empty w (fun x => x = w.heap.size ∨ w1.heap.size ≤ x) (Or.inl rfl) (snP r)).later hb1)
  by_cases h0 : r.si = 0
  · obtain ⟨e1, e2⟩ := hsf.1 h0
    rw [e1] at hrd
    obtain ⟨a1, c1, rfl, _⟩ := hrd.shape
    subst e2
    clear hrd ho1 hb1 HF hsf
    go_wp2
    go_loopw [3, 5] (fun v i wr => v = .slice (some ⟨w.heap.size, 0, none⟩) 0 0 ∧ i = .int .i64 0 ∧ wr = w1) (fun _ _ _ => 0)
    case atStart => exact ⟨rfl, rfl, rfl⟩
    case round =>
      obtain ⟨rfl, rfl, rfl⟩ := hrel
      go_wp2
      go_ret
      exact ⟨_, rfl, HB1.out, (HE.out.ow (by rw [snP_len, HNb.out]) (by omega)).mono fun b h => ⟨by have := h.1; omega, h.2⟩⟩
  · have e1 := hsf.2 h0
    rw [e1] at hrd
    obtain ⟨a1, c1, rfl, _⟩ := hrd.shape
    have HRd := hide hrd
    clear hrd ho1 hb1 HF hsf
    go_wp2
    go_loopw [3, 5] (fun v i wr => ∃ (j : Int) (k : Nat), i = .int .i64 j ∧ ((j = 0 ∧ k = 0) ∨ (j = 1 ∧ k = nb)) ∧ Hid (BuiltP (fun x => x = w.heap.size ∨ w1.heap.size ≤ x) wr v k (snP r)) ∧ Hid (Below w.heap.size w wr) ∧ Hid (Ku (fun x => x = w.heap.size) w1 wr)) (fun _ i _ => 1 - (intOf i).toNat)
    case atStart => exact ⟨0, 0, rfl, .inl ⟨rfl, rfl⟩, HE.out, HB1.out, Ku.refl _ _⟩
    case round =>
      obtain ⟨j, k, rfl, hjk, HBu, HB, HBB⟩ := hrel
      rcases hjk with ⟨rfl, rfl⟩ | ⟨rfl, rfl⟩
      · obtain ⟨av, cv, rfl⟩ := HBu.out.shape
        obtain ⟨b, off, vb, rfl, hsb, _, _, c2, qb⟩ := RdJ.at11 HRd.out (k := 0) (by simp)
        have c2' : w1.cell? ⟨b, off + 2, none⟩ = some vb := by simpa using c2
        have qb' : RdI (fun b => (w.alloc (.cells #[] 74)).heap.size ≤ b ∧ b < w1.heap.size) w1 vb (sbL r) := by simpa using qb
        obtain ⟨ab, cb, hvb⟩ := qb'.shape
        rw [HNb.out] at hvb
        subst hvb
        have HC2 := hide c2'
        have HQb := hide qb'
        simp only [World.size_alloc] at hsb
        have d2 := HBB.out.cell c2' (by omega)
        clear c2 qb c2' qb'
        go_wp2
        go_loopw [3, 6] (fun v i wr => ∃ k : Nat, k ≤ nb ∧ i = .int .i64 k ∧ Hid (BuiltP (fun x => x = w.heap.size ∨ w1.heap.size ≤ x) wr v k (snP r)) ∧ Hid (Below w.heap.size w wr) ∧ Hid (Ku (fun x => x = w.heap.size) w1 wr)) (fun _ i _ => nb - (intOf i).toNat)
        case atStart => exact ⟨0, Nat.zero_le _, rfl, HBu.out, HB.out, HBB.out⟩
        case round =>
          clear HBu HB HBB d2
          obtain ⟨k, hk, rfl, HBu, HB, HBB⟩ := hrel
          obtain ⟨av, cv, rfl⟩ := HBu.out.shape
          have d2 := HBB.out.cell HC2.out (by omega)
          by_cases hlt : k < nb
          · obtain ⟨bb, ob, rfl, hsbb, hx⟩ := HQb.out.at11 (k := k) (by rw [HNb.out]; exact hlt)
            simp only [World.size_alloc] at hsbb
            have hx' := HBB.out.cell hx (by omega)
            obtain ⟨x, hxe⟩ : ∃ x, (sbL r).getD k 0 = x := ⟨_, rfl⟩
            rw [hxe] at hx'
            have HXe := hide hxe
            obtain ⟨v0, v1, v2, v3, v4, v5⟩ := HV.out.later HB.out
            have hk1 : (k : Int) < (nb : Int) := by omega
            have hk0 : (0 : Int) ≤ (k : Int) := Int.natCast_nonneg _
            obtain ⟨en, hen⟩ : ∃ en : Nat, min ((r.sn.length : Nat) : Int) (((k : Int) + 1) * 8) = (en : Int) := ⟨min r.sn.length (8 * (k + 1)), by omega⟩
            have hen1 : 8 * k ≤ en := by omega
            have hen2 : en ≤ r.sn.length := by omega
            have hen3 : en - 8 * k = min (r.sn.length - 8 * k) 8 := by omega
            have HR := hide ((((HY.out.later HB.out).from (8 * k) (by omega)).upto (en - 8 * k) (by omega)))
            have HLk : Hid (((r.sn.drop (8 * k)).take (en - 8 * k)).length ≤ 1048576) := by unfold Hid; rw [List.length_take]; omega
            have HTk : Hid ((r.sn.drop (8 * k)).take (en - 8 * k) = (r.sn.drop (8 * k)).take 8) := by unfold Hid; rw [List.take_eq_take_iff, List.length_drop]; omega
            have HQ := hide (snP_at (r := r) (k := k) (by rw [HNb.out]; exact hlt))
            have hcn : ¬ cy = 8 * k := by omega
            obtain ⟨V2, Bk2, hown, hpr, hin⟩ := HBu.out
            have HOw0 := hide hown
            have HPr := hide hpr
            have HIn := hide hin
            have hz := HB.out.size
            have hzs := HBB.out.size
            have hbk : bk < w.heap.size := HV.out.lt
            have hne9 : ∀ q, (Value.slice av k cv).ownBlock = some q → q ≠ b ∧ q ≠ bb ∧ q ≠ bk := by
              intro q hq
              have h9 : q = w.heap.size ∨ w1.heap.size ≤ q := hpr q hq
              omega
            have HNe := hide hne9
            clear hne9
            clear hx hxe hown hpr hin HBu
            go_wp2_with (first | (go_at_call 118; refine (l1MinI _ _ _).mono ?_; rintro e w5 ⟨rfl, he5⟩; have he6 := he5.symm; clear he5; subst he6) | fail)
            obtain ⟨k8, hk8⟩ : ∃ k8 : Nat, (k : Int) * 8 = (k8 : Int) := ⟨8 * k, by omega⟩
            have hk8n : 8 * k = k8 := by omega
            rw [hk8n] at HR HLk HTk hcn
            have hwr : IntKind.i64.wrap (k8 : Int) = (k8 : Int) := by simp [IntKind.wrap, IntKind.bits, IntKind.signed]; omega
            have hlo : (0 : Int) ≤ (k8 : Int) := by omega
            have hle : (k8 : Int) ≤ (en : Int) := by omega
            have hec : (en : Int) ≤ (cy : Int) := by omega
            obtain ⟨lk, hlk⟩ : ∃ n, en - k8 = n := ⟨_, rfl⟩
            rw [hlk] at HR HLk HTk
            have hsA : slA ay cy k8 = ay.map (fun x => x.add k8) := by unfold slA; rw [if_neg hcn]
            rw [hsA] at HR
            clear hsA
            go_region_held3 (fun w' => w'.cell? ⟨b, off + 2, none⟩ = some (.slice (some ⟨bb, ob, none⟩) nb cb) ∧ w'.cell? ⟨bb, ob + k, none⟩ = some (.int .i64 x) ∧ w'.cell? ⟨bk, 4, none⟩ = some (.slice ay r.sn.length cy)) (first | exact ⟨d2, hx', v4⟩ | exact ⟨e0, e1, e2⟩ | exact ⟨cell_later (below_alloc _ _) e0, cell_later (below_alloc _ _) e1, cell_later (below_alloc _ _) e2⟩ | exact ⟨s0, s1, s2⟩)
              (first
                | (go_at_call 119; refine (l1Ints (HR.out.drewN 1) HLk.out).mono ?_; rintro e w2 ⟨z2, rfl, hb2, ho2⟩; rw [HTk.out] at ho2; obtain ⟨a4, c4, hz4⟩ := ho2.shape; obtain ⟨n4, hn4⟩ : ∃ n4, ((r.sn.drop (8 * k)).take 8).length = n4 := ⟨_, rfl⟩; rw [hk8n] at hn4; rw [hn4] at hz4; subst hz4; have HN4 := hide hn4; clear hn4; have e0 := cell_later hb2 d2; have e1 := cell_later hb2 hx'; have e2 := cell_later hb2 v4; have HB1 := hide (below_on (below_drewN wr 1) hb2); have HO1 := hide ho2; have hzz : wr.heap.size ≤ w2.heap.size := hb2.size; have hl0 : b < w2.heap.size := (by omega); have hl1 : bb < w2.heap.size := (by omega); have hl2 : bk < w2.heap.size := (by omega); clear hb2 ho2)
                | (refine step_append_lies _ (by rfl) _ _ _ (by rfl) 0 74 i0 (.agg #[.int .i64 0, .slice none 0 0]) 2 32 Tryz.underlying27 hi hz0 hz1 hz2 rfl (by omega) _ k _ (by rfl) (ownsRow_later (ownsRow_later HOw0.out HB1.out) (below_alloc w2 (.cells #[.int .i64 x, .slice a4 n4 c4] 74))) ⟨w2.heap.size, 0, none⟩ 1 1 [.int .i64 x, .slice a4 n4 c4] (by rfl) (by rfl) (World.news_of_block (cs := #[.int .i64 x, .slice a4 n4 c4]) (t := 74) (fr := (0, 0)) (heap_alloc_new w2 _)) cells2_one (by omega) (by unfold maxLen; omega) (by omega) (Nat.zero_le _) (w2.heap.size + 1) (by simp) ?_; intro g cap w3 hown3 hgrow hat hlt3; have s0 : w3.cell? ⟨b, off + 2, none⟩ = some (.slice (some ⟨bb, ob, none⟩) nb cb) := (hgrow.cell_far ⟨b, off + 2, none⟩ (Nat.lt_of_lt_of_le hl0 (below_alloc _ _).size) (fun e => (HNe.out _ e.symm).1 rfl)).trans (cell_later (below_alloc _ _) e0); have s1 : w3.cell? ⟨bb, ob + k, none⟩ = some (.int .i64 x) := (hgrow.cell_far ⟨bb, ob + k, none⟩ (Nat.lt_of_lt_of_le hl1 (below_alloc _ _).size) (fun e => (HNe.out _ e.symm).2.1 rfl)).trans (cell_later (below_alloc _ _) e1); have s2 : w3.cell? ⟨bk, 4, none⟩ = some (.slice ay r.sn.length cy) := (hgrow.cell_far ⟨bk, 4, none⟩ (Nat.lt_of_lt_of_le hl2 (below_alloc _ _).size) (fun e => (HNe.out _ e.symm).2.2 rfl)).trans (cell_later (below_alloc _ _) e2)))
            have HS := hide (BuiltP.step (P' := (fun x => x = w.heap.size ∨ w1.heap.size ≤ x)) HIn.out HOw0.out HPr.out (fun _ h => h) (fun b hb => Or.inr (Nat.le_trans hzs hb)) HB1.out (by rw [HQ.out, hk8n]; exact HO1.out) (below_alloc w2 (.cells #[.int .i64 x, .slice a4 n4 c4] 74)) (by rw [HQ.out, HXe.out]; exact hown3) hgrow (by simpa using hat))
            have HBn := hide (below_on (below_on HB.out HB1.out) (below_alloc w2 (.cells #[.int .i64 x, .slice a4 n4 c4] 74)))
            have HB3 := hide (HBn.out.grown hgrow (by simp; omega) (fun r hr => by have := HPr.out r hr; omega))
            have HBB3 := hide (((HBB.out.trans (Ku.of_below HB1.out)).trans (Ku.of_below (below_alloc w2 (.cells #[.int .i64 x, .slice a4 n4 c4] 74)))).grownW hgrow (fun r hr => HPr.out r hr))
            clear hown3 hgrow hat s0 s1 s2 e0 e1 e2 hzz
            go_wp2
            go_roundw
            case rel => exact ⟨k + 1, hlt, by go_num, HS.out, HB3.out, HBB3.out⟩
            case measure => simp [intOf]; omega
          · have hkn : k = nb := by omega
            subst hkn
            have hnl : ¬ (k : Int) < (k : Int) := by omega
            go_wp2
            exact ⟨⟨1, k, rfl, .inr ⟨rfl, rfl⟩, HBu, HB, HBB⟩, by simp [intOf]⟩
      · obtain ⟨av, cv, rfl⟩ := HBu.out.shape
        go_wp2
        go_ret
        exact ⟨_, rfl, HB.out, (HBu.out.ow (by rw [snP_len, HNb.out]) (by omega)).mono fun b h => ⟨by have := h.1; omega, h.2⟩⟩
end Go.Proofs.YtlmaopljihbdkaaGreat
namespace Go.Proofs.YtlmaopljihbdkaaGreat
open Go.RowKit Go.Shelf
attribute [local go_sem] Oper.semAt_some
theorem yield_tb2 {e : Ending} {A B : Prop} (h : (e = .returned (.bool true) ∧ A) ∨ (e = .returned (.bool false) ∧ B)) : ∃ tb : Bool, e = .returned (.bool tb) ∧ ((tb = true ∧ A) ∨ (tb = false ∧ B)) := by
  rcases h with ⟨h1, h2⟩ | ⟨h1, h2⟩
  · exact ⟨true, h1, .inl ⟨rfl, h2⟩⟩
  · exact ⟨false, h1, .inr ⟨rfl, h2⟩⟩
theorem enP_len (r : Rf) : (enP r).length = r.lg.length := by simp [enP]
theorem enP_at {r : Rf} {k : Nat} (h : k < r.lg.length) : (enP r).getD k (0, []) = (sfV (r.lg.getD k oj0).1, peR (r.lg.getD k oj0)) := by
  simp [enP, List.getD, h]
set_option maxRecDepth 100000 in
set_option maxHeartbeats 8000000 in
theorem entrySeq {T : Nat → Prop} {w : World} {Bp : Nat} {z : Value} (r : Rf) (v5 : w.cell? ⟨Bp, 5, none⟩ = some z)
    (hz : RdJ T w z r.lg) (hl : r.lg.length ≤ 1048576) (hT : ∀ b, T b → b < w.heap.size) (m : Nat) :
    SeqG m Tryz.prog 135 #[.pointer (some ⟨Bp, 0, none⟩)] T (enP r) w := fun l J Jx D0 W hW hD hJ hJx _ _ hJb hY h0 => by
  obtain ⟨az, cz, rfl, _⟩ := hz.shape
  have u5 := cell_later hW v5
  have hTW : ∀ b, T b → b < W.heap.size := fun b hb => Nat.lt_of_lt_of_le (hT b hb) hW.size
  have HTW := hide hTW
  have HZ := hide (hz.later hW)
  have HD := hide hD
  have HYd := hide hY
  have H0 := hide h0
  have fld1 := Tryz.fldIs1
  have fld2 := Tryz.fldIr1
  obtain ⟨n, hn⟩ : ∃ n, r.lg.length = n := ⟨_, rfl⟩
  have HN := hide hn
  rw [hn] at u5 HZ hl
  have hmx : Tryz.prog.follows .mixedOrders = true := by kernel_rfl
  clear v5 hz hT hW hD hJ hJx hJb hY h0 hTW hn
  refine callsIn_of_wp Tryz.func135 rfl trivial ?_ rfl
  simp only [Tryz.ntmps135, List.size_toArray, List.length_cons, List.length_nil, Nat.reduceAdd, Nat.reduceSub, Array.replicate_succ, Array.replicate_zero, List.push_toArray, List.append_toArray, List.nil_append, List.cons_append]
  gi_wp2
  gi_loopw [8] (fun q wr => ∃ (i : Nat) (D : Nat → Prop), q = .int .i64 i ∧ i ≤ n ∧ Hid (J D i wr) ∧ Hid (∀ b, D b → ¬ T b) ∧ Hid (RdJ T wr (.slice az n cz) r.lg) ∧ W.heap.size ≤ wr.heap.size) (fun q _ => n - (intOf q).toNat)
  case atStart => exact ⟨0, D0, rfl, Nat.zero_le _, H0.out, HD.out, HZ.out, Nat.le_refl _⟩
  case round =>
    clear HZ H0 u5
    obtain ⟨i, D, rfl, hin, HJk, HDk, HZk, hsz⟩ := hrel
    rcases Nat.lt_or_ge i n with hlt | hge
    · obtain ⟨b, off, vv, rfl, _, q0, q1, q2, q3⟩ := RdJ.at11 HZk.out (k := i) (by rw [HN.out]; exact hlt)
      obtain ⟨a3, c3, rfl⟩ := q3.shape
      have HQ := hide (enP_at (r := r) (k := i) (by rw [HN.out]; exact hlt))
      obtain ⟨pp, hpp⟩ : ∃ p, r.lg.getD i oj0 = p := ⟨_, rfl⟩
      rw [hpp] at q0 q1 q2 q3 HQ
      obtain ⟨x, t, ws⟩ := pp
      dsimp only at q0 q1 q2 q3 HQ
      obtain ⟨lx, hlx⟩ : ∃ l, ws.length = l := ⟨_, rfl⟩
      rw [hlx] at q2 q3
      have hii : (i : Int) < (n : Int) := by omega
      have hi0 : (0 : Int) ≤ (i : Int) := by omega
      have hni : (n : Int) ≤ 1048576 := by omega
      obtain ⟨WA, hWA⟩ : ∃ WA, wr.alloc (.cells #[.int .i64 x, .int .i64 t, .slice a3 lx c3] 110) = WA := ⟨_, rfl⟩
      have hbA : Below wr.heap.size wr WA := by rw [← hWA]; exact below_alloc _ _
      have p0 : WA.drew.cell? ⟨wr.heap.size, 0, none⟩ = some (.int .i64 x) := by rw [← hWA]; simp [go_sem]
      have p1 : WA.drew.cell? ⟨wr.heap.size, 1, none⟩ = some (.int .i64 t) := by rw [← hWA]; simp [go_sem]
      have p2 : WA.drew.cell? ⟨wr.heap.size, 2, none⟩ = some (.slice a3 lx c3) := by rw [← hWA]; simp [go_sem]
      have HBc := hide (below_on hbA (below_drewN WA 1))
      have HR3 := hide (q3.later HBc.out)
      have hszA : WA.heap.size = wr.heap.size + 1 := by rw [← hWA]; simp
      have HLt := hide hlt
      clear hlx hpp hbA
      gi_wp2
      (try rw [hWA])
      clear hWA q0 q1 q2 q3
      gi_region_with_o (first
        | (refine ⟨trivial, fun h => (by simp [Fence.wide] at h), ?_⟩; gi_at_call 99; refine (callsIn_wide.2 (implSlotFor x _)).mono ?_; rintro e w5 ⟨rfl, hb5⟩; have HR5 := hide (HR3.out.later hb5); have HB5 := hide (below_on HBc.out hb5); have p0 := cell_later hb5 p0; have p1 := cell_later hb5 p1; have p2 := cell_later hb5 p2; clear HR3 HBc; have HR3 := HR5; have HBc := HB5; clear HR5 HB5; (first | (have HO7 := hide (HOw.out.later hb5); clear HOw; have HOw := HO7; clear HO7 hb5 hyy; obtain ⟨fn, tmps, assign, body, hyy0, hR⟩ := HYd.out D i (sfV x) _ wr w5 HJk.out HBc.out (by rw [enP_len, HN.out]; exact HLt.out) (by rw [HQ.out]) (by rw [HQ.out]; exact HOw.out); have hyy : (Instr.yield l #[.agg #[.int .i64 (sfV x), .slice a6 n6 c6]]).run Tryz.prog w5 = .ok (.round l fn tmps assign body) w5 := hyy0; clear hyy0) | clear hb5))
        | (refine ⟨trivial, fun h => (by simp [Fence.wide] at h), ?_⟩; gi_at_call 136; refine (callsIn_wide.2 (implPackEntry x t HR3.out)).mono ?_; rintro e w6 ⟨z6, rfl, hb6, ho6⟩; obtain ⟨a6, c6, hz6⟩ := ho6.shape; obtain ⟨n6, hn6⟩ : ∃ n, (peR (x, t, ws)).length = n := ⟨_, rfl⟩; rw [hn6] at hz6; subst hz6; clear hn6; have HR5 := hide (HR3.out.later hb6); have hszB := HBc.out.size; have HB5 := hide (below_on HBc.out hb6); have p0 := cell_later hb6 p0; have p1 := cell_later hb6 p1; have p2 := cell_later hb6 p2; clear HR3 HBc; have HR3 := HR5; have HBc := HB5; clear HR5 HB5; have HOw := hide (ho6.mono hszB); clear hb6 ho6 hszB; obtain ⟨fn, tmps, assign, body, hyy0, hR⟩ := HYd.out D i (sfV x) _ wr w6 HJk.out HBc.out (by rw [enP_len, HN.out]; exact HLt.out) (by rw [HQ.out]) (by rw [HQ.out]; exact HOw.out); have hyy : (Instr.yield l #[.agg #[.int .i64 (sfV x), .slice a6 n6 c6]]).run Tryz.prog w6 = .ok (.round l fn tmps assign body) w6 := hyy0; clear hyy0)
        | (refine ⟨fun h => (by simp [Fence.wide] at h), hR.mono ?_⟩; rintro e W3 hor; obtain ⟨tb, rfl, hcase⟩ := yield_tb2 hor; clear hor hyy))
      all_goals
        have HZ6 := hide (HZk.out.later HBc.out)
        have hs6 := HBc.out.size
        clear HZk HJk HBc HR3 HOw p0 p1 p2
        rcases hcase with ⟨rfl, D', hJ3, hk3, hD3⟩ | ⟨rfl, hJx3, _⟩
        · have HDn : Hid (∀ b, D' b → ¬ T b) := fun b hb hTb => by
            rcases hD3 b hb with h | h
            · exact HDk.out b h hTb
            · have := HTW.out b hTb; omega
          have HZ7 := hide (HZ6.out.ku hk3 (fun b hb h => HDk.out b h hb))
          have hs7 := hk3.size
          have HJ7 := hide hJ3
          clear hJ3 hk3 hD3 HZ6
          gi_wp2
          go_roundw
          case rel => exact ⟨i + 1, D', by simp, by omega, HJ7.out, HDn.out, HZ7.out, by omega⟩
          case measure => simp [intOf]; omega
        · have HJx3 := hide hJx3
          clear hJx3
          gi_wp2
          refine bodyPost_ret (results_none rfl _ _ _) rfl ?_
          exact ⟨⟨_, rfl⟩, .inr HJx3.out⟩
    · have hi : i = n := by omega
      subst hi
      have HJn : Hid (J D (enP r).length wr) := by rw [Hid, enP_len, HN.out]; exact HJk.out
      have hnl : ¬ (i : Int) < (i : Int) := by omega
      clear HJk
      gi_wp2
      go_end0
      exact ⟨⟨_, rfl⟩, .inl ⟨D, HJn.out⟩⟩
end Go.Proofs.YtlmaopljihbdkaaGreat
namespace Go.Proofs.YtlmaopljihbdkaaGreat
open Go.RowKit
theorem RdJ.noloop {S : Nat → Prop} {w : World} {v : Value} {fs : List Oj} {l : Nat} {q q' : Obj} (h : RdJ S w v fs) (hl : w.heap[l]? = some q) (hq : isMark q = true) (hq' : isMark q' = true) : RdJ S (w.putObj l q') v fs := by
  obtain ⟨ao, c, e1, e2, e3⟩ := h
  refine ⟨ao, c, e1, e2, fun hne => ?_⟩
  obtain ⟨b, off, V, f1, f2, f3⟩ := e3 hne
  have hk := Ku.of_wr (wr_mark hl hq hq')
  have hb : ∀ o v, w.cell? ⟨b, o, none⟩ = some v → (w.putObj l q').cell? ⟨b, o, none⟩ = some v := fun o v hc => hk.cell hc (fun e => by subst e; exact cell_no_loop hc hl hq)
  exact ⟨b, off, V, f1, f2, fun i hi => ⟨hb _ _ (f3 i hi).1, hb _ _ (f3 i hi).2.1, hb _ _ (f3 i hi).2.2.1, (f3 i hi).2.2.2.noloop hl hq hq'⟩⟩
structure KeepG (S T : Nat → Prop) (C : List (Nat × Nat × Value)) (E : List Nat) (y z : Value) (sn : List Int) (lg : List Oj) (w : World) : Prop where
  rd : RdI S w y sn
  rj : RdJ T w z lg
  cl : ∀ p, p ∈ C → w.cell? ⟨p.1, p.2.1, none⟩ = some p.2.2
  dl : ∀ b, b ∈ E → w.heap[b]? = some (.deferred (some []))
theorem KeepG.later {S T : Nat → Prop} {C : List (Nat × Nat × Value)} {E : List Nat} {y z : Value} {sn : List Int} {lg : List Oj} {w w' : World} (h : KeepG S T C E y z sn lg w) (hb : Below w.heap.size w w') : KeepG S T C E y z sn lg w' :=
  ⟨h.rd.later hb, h.rj.later hb, fun p hp => cell_later hb (h.cl p hp), fun b hb2 => (hb.block b (Array.getElem?_eq_some_iff.1 (h.dl b hb2)).1).trans (h.dl b hb2)⟩
theorem KeepG.ku {S T D : Nat → Prop} {C : List (Nat × Nat × Value)} {E : List Nat} {y z : Value} {sn : List Int} {lg : List Oj} {w w' : World} (h : KeepG S T C E y z sn lg w) (hw : Ku D w w') (h1 : ∀ b, D b → ¬ S b ∧ ¬ T b ∧ (∀ p, p ∈ C → p.1 ≠ b) ∧ ¬ b ∈ E) : KeepG S T C E y z sn lg w' :=
  ⟨h.rd.ku hw (fun _ b hb hd => (h1 b hd).1 hb), h.rj.ku hw (fun b hb hd => (h1 b hd).2.1 hb), fun p hp => hw.cell (h.cl p hp) (fun hd => (h1 p.1 hd).2.2.1 p hp rfl), fun b hb => (hw.block b (Array.getElem?_eq_some_iff.1 (h.dl b hb)).1 (fun hd => (h1 b hd).2.2.2 hb)).trans (h.dl b hb)⟩
theorem KeepG.noloop {S T : Nat → Prop} {C : List (Nat × Nat × Value)} {E : List Nat} {y z : Value} {sn : List Int} {lg : List Oj} {w : World} {l : Nat} {q q' : Obj} (h : KeepG S T C E y z sn lg w) (hl : w.heap[l]? = some q) (hq : isMark q = true) (hq' : isMark q' = true) (hE : ¬ l ∈ E) : KeepG S T C E y z sn lg (w.putObj l q') :=
  ⟨h.rd.noloop hl hq hq', h.rj.noloop hl hq hq', fun p hp => cell_wr (wr_mark hl hq hq') (h.cl p hp) (fun e => cell_no_loop (h.cl p hp) (e ▸ hl) hq), fun b hb => (World.putObj_heap_other (fun (e : b = l) => hE (by rw [← e]; exact hb))).trans (h.dl b hb)⟩
def PartI (J : (Nat → Prop) → Nat → World → Prop) (S T : Nat → Prop) (C : List (Nat × Nat × Value)) (E X : List Nat) (y z : Value) (sn : List Int) (lg : List Oj) (n : Nat) (D : Nat → Prop) (k : Nat) (W : World) : Prop :=
  J D (n + k) W ∧ (∀ b, D b → b < W.heap.size ∧ (¬ S b ∧ ¬ T b ∧ (∀ p, p ∈ C → p.1 ≠ b) ∧ ¬ b ∈ E) ∧ ¬ b ∈ X) ∧ KeepG S T C E y z sn lg W
theorem part_yield {m l n : Nat} {P : Program} {J : (Nat → Prop) → Nat → World → Prop} {Jx : World → Prop} {W0 : World} {qs qp : List (Int × List Int)}
    (hJo : ∀ D k A l' o o', W0.heap.size ≤ l' → J D k A → A.heap[l']? = some o → isMark o = true → isMark o' = true → J D k (A.putObj l' o'))
    (hY : ∀ D k x v A B, J D k A → Below A.heap.size A B → k < qs.length → x = (qs.getD k (0, [])).1 → OwI A.heap.size B v (qs.getD k (0, [])).2 →
      YieldAt Fence.wide (m - 1) P l (encP x v) B fun e W' => (e = .returned (.bool true) ∧ ∃ D', J D' (k + 1) W' ∧ Ku D B W' ∧ ∀ b, D' b → D b ∨ B.heap.size ≤ b) ∨ (e = .returned (.bool false) ∧ Jx W' ∧ Ku D B W'))
    (hq : ∀ k, k < qp.length → n + k < qs.length ∧ qs.getD (n + k) (0, []) = qp.getD k (0, []))
    {D : Nat → Prop} {k : Nat} {x : Int} {v : Value} {A B W : World} {R : Nat} {T : TypeId} (hJ : J D (n + k) A) (hAB : Below A.heap.size A B) (hk : k < qp.length) (hx : x = (qp.getD k (0, [])).1) (hv : OwI A.heap.size B v (qp.getD k (0, [])).2)
    (hR : W0.heap.size ≤ R) (hW : ∃ r r', A.heap[R]? = some (.loop r) ∧ W = (B.alloc (.cells #[.int .i64 x, v] T)).putObj R (.loop r')) :
    YieldAt Fence.wide (m - 1) P l (encP x v) W fun e W' => (e = .returned (.bool true) ∧ ∃ D', J D' (n + (k + 1)) W' ∧ Ku D W W' ∧ ∀ b, D' b → D b ∨ W.heap.size ≤ b) ∨ (e = .returned (.bool false) ∧ Jx W' ∧ Ku D W W') := by
  obtain ⟨r, r', hr, hW⟩ := hW
  have hRA : R < A.heap.size := (Array.getElem?_eq_some_iff.1 hr).1
  have hsAB := hAB.size
  have hrB : (B.alloc (.cells #[.int .i64 x, v] T)).heap[R]? = some (.loop r) := ((below_alloc B _).block R (by omega)).trans ((hAB.block R hRA).trans hr)
  have hb : Below (A.putObj R (.loop r')).heap.size (A.putObj R (.loop r')) W := by
    have hsA : (A.putObj R (.loop r')).heap.size = A.heap.size := by simp [World.putObj]
    have w1 := wr_put (r' := r') hr
    have w2 := wr_put (r' := r') hrB
    have bb := below_on hAB (below_alloc B (.cells #[.int .i64 x, v] T))
    refine ⟨by rw [hW, w2.os, bb.os, w1.os], by rw [hW, w2.tape, bb.tape, w1.tape], by rw [hW, w2.output, bb.output, w1.output], by rw [hW, hsA]; exact Nat.le_trans bb.size w2.size, fun j hj => ?_⟩
    rw [hsA] at hj
    by_cases e : j = R
    · subst e
      rw [hW]
      exact (World.putObj_heap_same (by simp; omega)).trans (World.putObj_heap_same hj).symm
    · rw [hW]
      exact (World.putObj_heap_other e).trans ((bb.block j hj).trans (World.putObj_heap_other e).symm)
  have hv2 : OwI (A.putObj R (.loop r')).heap.size W v (qs.getD (n + k) (0, [])).2 := by
    rw [(hq k hk).2]
    have hsA : (A.putObj R (.loop r')).heap.size = A.heap.size := by simp [World.putObj]
    obtain ⟨bz, z1, z2⟩ := hv
    have hku : Ku (fun b => b = R) B W := by rw [hW]; exact (Ku.of_below (below_alloc _ _)).trans (Ku.of_wr (wr_put hrB))
    refine ⟨bz, z1.ku hku (fun hn b hb e => by have := (z2 hn).1; omega), fun hn => ?_⟩
    obtain ⟨j1, j2, j3⟩ := z2 hn
    rw [hsA]
    exact ⟨j1, Nat.lt_of_lt_of_le j2 hku.size, fun o => (hku.frozen j2 (by omega)).trans (j3 o)⟩
  have hy := hY D (n + k) x v (A.putObj R (.loop r')) W (hJo _ _ _ _ _ _ hR hJ hr rfl rfl) hb (hq k hk).1 (by rw [(hq k hk).2]; exact hx) hv2
  exact hy
end Go.Proofs.YtlmaopljihbdkaaGreat
