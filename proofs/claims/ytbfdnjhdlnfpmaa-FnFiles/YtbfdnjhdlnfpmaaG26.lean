/- Fi6 in one text: what each says stands at its head below. -/
import Derived.Test.YtbfdnjhdlnfpmaaG21
import Derived.Deep.AppendLies
/- Chapter 8: 'BlocksIn' of both sides, walked. -/
namespace Go.Proofs.Ytbfdnjhdlnfpmaa
open Go.RowKit

/-- The block x, once for each file that has it. -/
def lb2 (fs : List Oj) (x : Int) : List Int := (fs.filter (fun p => decide (x ∈ p.2.2))).map (fun _ => x)
theorem lb2_succ (fs : List Oj) (x : Int) (k : Nat) (h : k < fs.length) : lb2 (fs.take (k + 1)) x = lb2 (fs.take k) x ++ if x ∈ (fs.getD k oj0).2.2 then [x] else [] := by
  have e : fs.getD k oj0 = fs[k] := by simp [List.getD, h]
  rw [e]
  unfold lb2
  rw [List.take_succ_eq_append_getElem h, List.filter_append, List.map_append]
  by_cases hx : x ∈ fs[k].2.2
  · rw [if_pos hx]; simp [hx]
  · rw [if_neg hx]; simp [hx]
theorem lb2_len (fs : List Oj) (x : Int) : (lb2 fs x).length ≤ fs.length := by
  unfold lb2; rw [List.length_map]; exact List.length_filter_le _ _
def lbTo (fs : List Oj) : Nat → List Int
  | 0 => []
  | k + 1 => lbTo fs k ++ lb2 fs (3 + (k : Int))
theorem lbTo_len (fs : List Oj) : ∀ k, (lbTo fs k).length ≤ k * fs.length
  | 0 => by simp [lbTo]
  | k + 1 => by
    have h1 := lbTo_len fs k
    have h2 := lb2_len fs (3 + (k : Int))
    rw [lbTo, List.length_append, Nat.succ_mul]
    omega
theorem lb2_mem {fs : List Oj} {x y : Int} : y ∈ lb2 fs x ↔ y = x ∧ x ∈ blksF fs := by
  unfold lb2
  rw [List.mem_map, blksF_mem]
  constructor
  · rintro ⟨p, hp, rfl⟩
    rw [List.mem_filter] at hp
    exact ⟨rfl, p, hp.1, by simpa using hp.2⟩
  · rintro ⟨rfl, p, h1, h2⟩
    exact ⟨p, List.mem_filter.2 ⟨h1, by simpa using h2⟩, rfl⟩
theorem lbTo_mem {fs : List Oj} {y : Int} : ∀ {k : Nat}, y ∈ lbTo fs k ↔ 3 ≤ y ∧ y < 3 + (k : Int) ∧ y ∈ blksF fs
  | 0 => by simp [lbTo]; omega
  | k + 1 => by
    rw [lbTo, List.mem_append, lbTo_mem (k := k), lb2_mem]
    constructor
    · rintro (⟨h1, h2, h3⟩ | ⟨rfl, h⟩)
      · exact ⟨h1, by push_cast; omega, h3⟩
      · exact ⟨by omega, by push_cast; omega, h⟩
    · rintro ⟨h1, h2, h3⟩
      push_cast at h2
      by_cases e : y = 3 + (k : Int)
      · exact Or.inr ⟨e, e ▸ h3⟩
      · exact Or.inl ⟨h1, by omega, h3⟩
theorem lb2_one {x : Int} : ∀ {fs : List Oj}, (blksF fs).Nodup → (lb2 fs x).length ≤ 1
  | [], _ => by simp [lb2]
  | p :: r, h => by
    simp only [blksF] at h
    obtain ⟨_, h2, h3⟩ := List.nodup_append.1 h
    have ih := lb2_one (x := x) h2
    unfold lb2 at *
    rw [List.length_map] at *
    by_cases hx : x ∈ p.2.2
    · have : r.filter (fun p => decide (x ∈ p.2.2)) = [] := by
        rw [List.filter_eq_nil_iff]
        intro q hq
        simp only [decide_eq_true_eq]
        intro hxq
        exact h3 x hx x (blksF_mem.2 ⟨q, hq, hxq⟩) rfl
      simp [hx, this]
    · simp [hx]; exact ih
theorem one_pair {l : List Int} (h : l.length ≤ 1) : l.Pairwise (· < ·) := by
  match l, h with
  | [], _ => exact List.Pairwise.nil
  | [a], _ => exact List.pairwise_singleton _ _
theorem lbTo_up {fs : List Oj} (h : (blksF fs).Nodup) : ∀ k, (lbTo fs k).Pairwise (· < ·)
  | 0 => List.Pairwise.nil
  | k + 1 => by
    rw [lbTo, List.pairwise_append]
    refine ⟨lbTo_up h k, one_pair (lb2_one h), fun a ha b hb => ?_⟩
    have h1 := (lbTo_mem.1 ha).2.1
    have h2 := (lb2_mem.1 hb).1
    omega
theorem up_unique : ∀ {xs ys : List Int}, xs.Pairwise (· < ·) → ys.Pairwise (· < ·) → (∀ a, a ∈ xs ↔ a ∈ ys) → xs = ys := by
  intro xs ys h1 h2 h
  have n1 : xs.Nodup := h1.imp (fun h => by omega)
  have n2 : ys.Nodup := h2.imp (fun h => by omega)
  have hp : xs.Perm ys := (List.perm_ext_iff_of_nodup n1 n2).2 h
  exact hp.eq_of_pairwise (fun a b _ _ h1 h2 => by omega) h1 h2
theorem lb_srt {fs : List Oj} (h : IsFi fs) : lbTo fs 20 = srtF fs := by
  have hn : (srtF fs).Nodup := ((srtF_perm fs).nodup_iff).2 h.nd
  have hu : (srtF fs).Pairwise (· < ·) := (mapF_iff.1 ((srtF_map h.one).2 h.nd)).2
  refine up_unique (lbTo_up h.nd 20) hu (fun a => ?_)
  rw [lbTo_mem, (srtF_perm fs).mem_iff]
  constructor
  · exact fun h => h.2.2
  · intro ha
    have := blksF_in h.one a ha
    exact ⟨this.1, by omega, ha⟩

set_option maxHeartbeats 4000000 in
set_option maxRecDepth 4000 in
theorem l8Blocks {S : Nat → Prop} {w : World} {v : Value} {fs : List Oj} (hv : RdJ S w v fs) (hsm : fs.length ≤ 1000) :
    Calls Try.prog 33 #[v] w fun e w' => ∃ z, e = .returned z ∧ Below w.heap.size w w' ∧ w'.ownsRow w.heap.size 2 1 z (lbTo fs 20).length ((lbTo fs 20).map (Value.int .i64)) := by
  obtain ⟨av, cv, rfl, hm⟩ := hv.shape
  have HV := hide hv
  obtain ⟨n, hn⟩ : ∃ n, fs.length = n := ⟨_, rfl⟩
  have HN := hide hn
  rw [hn] at HV hm hsm ⊢
  clear hv hn
  obtain ⟨i0, hi, hz0, hz1, hz2⟩ := info_parts Try.infoInt
  have HRow0 : Hid ((w.alloc (.cells #[] 2)).ownsRow w.heap.size 2 1 (.slice (some ⟨w.heap.size, 0, none⟩) 0 0) 0 []) :=
    World.ownsRow_made w (e := 2) (size := 1) #[] 0 (Nat.le_refl _) (by unfold maxLen; omega) (by simp)
  have HB0 := hide (below_alloc w (.cells #[] 2))
  go_enter Try.func33, Try.ntmps33
  go_wp2
  go_loopw [3, 4] (fun v i wr => ∃ (m l : Nat), m ≤ 20 ∧ i = .int .i64 (3 + (m : Int)) ∧ Hid ((lbTo fs m).length = l) ∧ Hid (wr.ownsRow w.heap.size 2 1 v l ((lbTo fs m).map (Value.int .i64))) ∧ Hid (Below w.heap.size w wr)) (fun _ i _ => 23 - (RowKit.intOf i).toNat)
  case atStart => exact ⟨0, 0, Nat.zero_le _, rfl, rfl, HRow0.out, HB0.out⟩
  case round =>
    clear HRow0 HB0
    obtain ⟨m, l, hmk, rfl, HLn, HRow, HB⟩ := hrel
    by_cases hltm : m < 20
    · have hltm' : 3 + (m : Int) ≤ 22 := by omega
      have hlb := lbTo_len fs m
      rw [HLn.out, HN.out] at hlb
      have hlb' : l ≤ 20000 := by
        have : m * n ≤ 20 * 1000 := Nat.mul_le_mul (by omega) hsm
        omega
      have HSn := hide (show lbTo fs (m + 1) = lbTo fs m ++ lb2 fs (3 + (m : Int)) from rfl)
      have HS1 := hide (fun k (hk : k < n) => lb2_succ fs (3 + (m : Int)) k (by rw [HN.out]; exact hk))
      have HS2 := hide (fun k => lb2_len (fs.take k) (3 + (m : Int)))
      obtain ⟨P, hP⟩ : ∃ P, lbTo fs m = P := ⟨_, rfl⟩
      rw [hP] at HLn HRow HSn
      have hx0 : ∃ x, 3 + (m : Int) = x := ⟨_, rfl⟩
      obtain ⟨x, hx⟩ := hx0
      have HX := hide hx
      rw [hx] at HSn HS1 HS2 hltm'
      clear hlb hP
      rw [hx]
      clear hx
      have HR0 : Hid (wr.ownsRow w.heap.size 2 1 u3 (l + 0) ((P ++ lb2 (fs.take 0) x).map (Value.int .i64))) := by
        rw [Hid]
        have : lb2 (fs.take 0) x = [] := by simp [lb2]
        rw [this]; simpa using HRow.out
      have HL0 : Hid ((lb2 (fs.take 0) x).length = 0) := by rw [Hid]; simp [lb2]
      go_wp2
      go_loopw [3, 5] (fun v i wr => ∃ (k j : Nat), k ≤ n ∧ i = .int .i64 k ∧ Hid ((lb2 (fs.take k) x).length = j) ∧ Hid (wr.ownsRow w.heap.size 2 1 v (l + j) ((P ++ lb2 (fs.take k) x).map (Value.int .i64))) ∧ Hid (Below w.heap.size w wr)) (fun _ i _ => n - (RowKit.intOf i).toNat)
      case atStart => exact ⟨0, 0, Nat.zero_le _, rfl, HL0.out, HR0.out, HB.out⟩
      case round =>
        clear HR0 HL0 HRow HB
        obtain ⟨k, j, hk, rfl, HJ, HRow, HB⟩ := hrel
        have hzz := HB.out.size
        by_cases hltk : k < n
        · obtain ⟨b, off, rfl, y, q0, q1, q2, q3⟩ := HV.out.file (k := k) (by rw [HN.out]; exact hltk)
          have HSk := hide (HS1.out k hltk)
          have hjn : j ≤ n := by
            have h1 := HS2.out k
            rw [HJ.out, List.length_take, HN.out] at h1
            omega
          obtain ⟨a3, c3, rfl⟩ := q3.shape
          have g2 := cell_later HB.out q2
          have HC := hide (l7Among x (q3.later HB.out))
          obtain ⟨lx, hlx⟩ : ∃ lx, (fs.getD k oj0).2.2.length = lx := ⟨_, rfl⟩
          rw [hlx] at g2 HC
          have hk0 : (0 : Int) ≤ (k : Int) := by omega
          have hk1 : (k : Int) < (n : Int) := by omega
          obtain ⟨L, hL⟩ : ∃ L, lb2 (fs.take k) x = L := ⟨_, rfl⟩
          rw [hL] at HJ HRow HSk
          clear q0 q1 q2 q3 hlx hL
          by_cases hin : x ∈ (fs.getD k oj0).2.2
          · rw [decide_eq_true hin] at HC
            rw [if_pos hin] at HSk
            clear hin
            go_wp2_with fail
            refine HC.out.mono ?_
            rintro e w' ⟨hw, rfl⟩
            have hw := hw.symm
            subst hw
            go_wp2_with (at_builtin; refine wpList_append_lies _ rfl _ _ _ rfl w.heap.size 2 i0 (.int .i64 0) 1 8 Try.underlying24 hi hz0 hz1 hz2 rfl (by omega) _ (l + j) _ (by rfl) (HRow.out.alloc (.cells #[.int .i64 x] 2)) ⟨wr.heap.size, 0, none⟩ 1 1 [.int .i64 x] (by rfl) (by rfl) (World.news_of_block (cs := #[.int .i64 x]) (t := 2) (fr := (0, 0)) (heap_alloc_new wr _)) (by simp [Value.oneCell']) (by omega) (by unfold maxLen; omega) (by omega) (by simp; omega) (wr.heap.size + 1) (by simp) ?_; intro g cap w4 hown3 hgrow hat hlt3)
            have HRow4 : Hid (w4.ownsRow w.heap.size 2 1 (.slice (some ⟨g, 0, none⟩) (l + j + 1) cap) (l + (j + 1)) ((P ++ lb2 (fs.take (k + 1)) x).map (Value.int .i64))) := by
              rw [Hid, HSk.out, ← Nat.add_assoc]
              simpa using hown3
            have HJ4 : Hid ((lb2 (fs.take (k + 1)) x).length = j + 1) := by rw [Hid, HSk.out, List.length_append, HJ.out]; rfl
            have HB4 := hide ((below_on HB.out (below_alloc wr (.cells #[.int .i64 x] 2))).grown hgrow (by simp; omega) (fun r hr => (HRow.out.lt r hr).1))
            clear hown3 hgrow hat hlt3
            go_wp2
            go_roundw
            case rel => exact ⟨k + 1, j + 1, by omega, by go_num, HJ4.out, HRow4.out, HB4.out⟩
            case measure => simp [RowKit.intOf]; omega
          · rw [decide_eq_false hin] at HC
            rw [if_neg hin, List.append_nil] at HSk
            rw [← HSk.out] at HRow HJ
            clear hin
            go_wp2_with fail
            refine HC.out.mono ?_
            rintro e w' ⟨hw, rfl⟩
            have hw := hw.symm
            subst hw
            go_wp2
            go_roundw
            case rel => exact ⟨k + 1, j, by omega, by go_num, HJ.out, HRow.out, HB.out⟩
            case measure => simp [RowKit.intOf]; omega
        · have hkn : k = n := by omega
          subst hkn
          have hT : fs.take k = fs := List.take_of_length_le (by rw [HN.out]; exact Nat.le_refl _)
          rw [hT] at HJ HRow
          rw [← HSn.out] at HRow
          have HLn2 : Hid ((lbTo fs (m + 1)).length = l + j) := by rw [Hid, HSn.out, List.length_append, HLn.out, HJ.out]
          have hxm : IntKind.i64.wrap (x + 1) = 3 + ((m + 1 : Nat) : Int) := by
            have := HX.out
            simp [IntKind.wrap, IntKind.bits, IntKind.signed]; omega
          have hx2 : (RowKit.intOf (.int .i64 (3 + ((m + 1 : Nat) : Int)))).toNat = m + 4 := by simp [RowKit.intOf]; omega
          have hx3 : (RowKit.intOf (.int .i64 x)).toNat = m + 3 := by have := HX.out; simp [RowKit.intOf]; omega
          go_wp2
          go_roundw
          case rel => exact ⟨m + 1, l + j, by omega, by first | rfl | go_num, HLn2.out, HRow.out, HB.out⟩
          case measure => first | (rw [hx2, hx3]; omega) | (simp [RowKit.intOf]; have := HX.out; omega)
    · have hm20 : m = 20 := by omega
      subst hm20
      go_wp2
      go_ret
      exact ⟨_, rfl, HB.out, by rw [HLn.out]; exact HRow.out⟩
def biR (fs : List Oj) : List Int := if filF fs = 0 then srtF fs else []
theorem biR_len (fs : List Oj) : (biR fs).length ≤ 1048576 := by
  unfold biR
  by_cases h : filF fs = 0
  · rw [if_pos h, srtF_len]
    have hi := filF_iff.1 h
    have h1 := blksF_len hi.one
    have h2 := hi.len
    omega
  · rw [if_neg h]; simp
set_option maxHeartbeats 1000000 in
theorem implBlocksIn {S : Nat → Prop} {w : World} {v : Value} {fs : List Oj} (hv : RdJ S w v fs) :
    Calls Try.prog 16 #[v] w (EndsI (pdC fs) (biR fs) w) := by
  obtain ⟨av, cv, rfl, hm⟩ := hv.shape
  have HV := hide hv
  clear hv
  unfold pdC biR
  obtain ⟨z, hz⟩ : ∃ z, filF fs = z := ⟨_, rfl⟩
  have HZ := hide hz
  rw [hz]
  clear hz
  have HC := hide (implFilesFault (HV.out.later (below_alloc w (.cells #[.int .i64 0, .slice none 0 0] 32))))
  rw [HZ.out] at HC
  obtain ⟨n, hn⟩ : ∃ n, fs.length = n := ⟨_, rfl⟩
  rw [hn] at HV HC ⊢
  clear hn
  by_cases h0 : z = 0
  · subst h0
    rw [if_pos rfl]
    have HI := hide (filF_iff.1 HZ.out)
    have hln := srtF_len fs
    have hln2 := blksF_len HI.out.one
    have hln3 := HI.out.len
    go_enter Try.func16, Try.ntmps16
    go_wp2_with fail
    refine HC.out.mono ?_
    rintro e w1 ⟨rfl, hb⟩
    have HRs := hide ((ResF.start w 32).later hb)
    have hw1 := HRs.out.lt
    have HC2 := hide (sortedBlocksI (HV.out.later HRs.out.below) (by omega))
    clear hb HC
    go_wp2_with fail
    refine HC2.out.mono ?_
    rintro e w2 ⟨z2, rfl, hb, ho⟩
    obtain ⟨az, cz, rfl⟩ := ho.rd.shape
    have hO := ho
    have HRs2 := hide (HRs.out.later hb)
    have HFn := hide (ret_ints (x := .int .i64 0) HRs2.out.below (Nat.le_refl _) hO hw1)
    have c0 := HRs2.out.c0
    have c1 := HRs2.out.c1
    have F0 := HRs2.out.fr 0
    have F1 := HRs2.out.fr 1
    clear hO hb ho HC2
    obtain ⟨l, hl⟩ : ∃ l, (srtF fs).length = l := ⟨_, rfl⟩
    rw [hl] at HFn ⊢
    clear hl
    go_wp2
    refine bodyPost_ret (v := .agg #[.int .i64 0, .slice az l cz]) (by simp [results, Try.results16, go_sem, c0, c1]) rfl ⟨_, rfl, HFn.out.1, HFn.out.2⟩
  · rw [if_neg h0]
    have h0b : (z == 0) = false := by simpa using h0
    go_enter Try.func16, Try.ntmps16
    go_wp2_with fail
    refine HC.out.mono ?_
    rintro e w1 ⟨rfl, hb⟩
    have HRs := hide ((ResF.start w 32).later hb)
    have c0 := HRs.out.c0
    have c1 := HRs.out.c1
    have F0 := HRs.out.fr 0
    have F1 := HRs.out.fr 1
    clear hb
    go_wp2
    refine bodyPost_ret (v := .agg #[.int .i64 z, .slice none 0 0]) (by simp [results, Try.results16, go_sem, c0, c1]) rfl ⟨_, rfl, HRs.out.shut _ _, OwI_nil _ _⟩
end Go.Proofs.Ytbfdnjhdlnfpmaa
