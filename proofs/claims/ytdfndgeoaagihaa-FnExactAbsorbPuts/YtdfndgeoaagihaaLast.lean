/- Chapter 4: of each block the last put alone: 'impl.lastOfEach', walked. -/
import Derived.Test.YtdfndgeoaagihaaCat
namespace Go.Proofs.Ytdfndgeoaagihaa
open Go.RowKit Go.Maps

theorem zeroInt (w : World) : (zeroValue 3).run Try.prog w = .ok (.int .i64 0) w := by kernel_rfl

/-- Behind k puts: the number of the last one of block x. -/
def lastI (ps : List (Int × List Int)) : Nat → Int → Int
  | 0, _ => 0
  | k + 1, x => if x = (ps.getD k (0, [])).1 then (k : Int) else lastI ps k x
theorem lastI_ge (ps : List (Int × List Int)) (x : Int) : ∀ n j, j < n → (ps.getD j (0, [])).1 = x → (j : Int) ≤ lastI ps n x
  | 0, _, h, _ => absurd h (Nat.not_lt_zero _)
  | n + 1, j, h, e => by
    unfold lastI
    by_cases e2 : x = (ps.getD n (0, [])).1
    · rw [if_pos e2]; omega
    · rw [if_neg e2]
      refine lastI_ge ps x n j ?_ e
      have : j ≠ n := by rintro rfl; exact e2 e.symm
      omega
theorem lastI_eq (ps : List (Int × List Int)) (x : Int) : ∀ n i, i < n → (ps.getD i (0, [])).1 = x → (∀ j, i < j → j < n → (ps.getD j (0, [])).1 ≠ x) → lastI ps n x = (i : Int)
  | 0, _, h, _, _ => absurd h (Nat.not_lt_zero _)
  | n + 1, i, h, e, hl => by
    unfold lastI
    by_cases e2 : i = n
    · subst e2; rw [if_pos e.symm]
    · rw [if_neg (fun e3 => hl n (by omega) (by omega) e3.symm)]
      exact lastI_eq ps x n i (by omega) e (fun j h1 h2 => hl j h1 (by omega))
theorem lastI_iff (ps : List (Int × List Int)) (n i : Nat) (hi : i < n) : lastI ps n (ps.getD i (0, [])).1 = (i : Int) ↔ ∀ j, i < j → j < n → (ps.getD j (0, [])).1 ≠ (ps.getD i (0, [])).1 := by
  refine ⟨fun h j h1 h2 e => ?_, fun h => lastI_eq ps _ n i hi rfl h⟩
  have := lastI_ge ps _ n j h2 e
  omega
/-- Of the first k puts of n those that are the last one of their block. -/
def absP (ps : List (Int × List Int)) (n : Nat) : Nat → List (Int × List Int)
  | 0 => []
  | k + 1 => absP ps n k ++ if lastI ps n (ps.getD k (0, [])).1 = (k : Int) then [ps.getD k (0, [])] else []
theorem absP_len (ps : List (Int × List Int)) (n : Nat) : ∀ k, (absP ps n k).length ≤ k
  | 0 => Nat.le_refl _
  | k + 1 => by
    have := absP_len ps n k
    rw [absP, List.length_append]
    split <;> simp <;> omega
theorem absP_pre (ps : List (Int × List Int)) (n : Nat) : ∀ d k, ∃ r, absP ps n (k + d) = absP ps n k ++ r
  | 0, k => ⟨[], by simp⟩
  | d + 1, k => by
    obtain ⟨r, hr⟩ := absP_pre ps n d k
    exact ⟨_, by rw [← Nat.add_assoc, absP, hr, List.append_assoc]⟩
theorem absP_at (ps : List (Int × List Int)) (n k : Nat) (hk : k < n) (h : lastI ps n (ps.getD k (0, [])).1 = (k : Int)) : (absP ps n n).getD (absP ps n k).length (0, []) = ps.getD k (0, []) := by
  obtain ⟨r, hr⟩ := absP_pre ps n (n - (k + 1)) (k + 1)
  rw [show k + 1 + (n - (k + 1)) = n by omega] at hr
  rw [hr, absP, if_pos h, List.append_assoc]
  simp [List.getD]
theorem absP_word {ps : List (Int × List Int)} {n C : Nat} (hw : ∀ i, i < n → (ps.getD i (0, [])).2.length ≤ C) : ∀ k, k ≤ n → ∀ p ∈ absP ps n k, p.2.length ≤ C
  | 0, _, p, hp => by simp [absP] at hp
  | k + 1, hk, p, hp => by
    rw [absP, List.mem_append] at hp
    rcases hp with hp | hp
    · exact absP_word hw k (by omega) p hp
    · split at hp
      · rw [List.mem_singleton] at hp; subst hp; exact hw k (by omega)
      · simp at hp

/-- Block B is a map of at most n entries; at each home block it has the number that f tells. -/
def LastAt (w : World) (B n : Nat) (f : Int → Int) : Prop :=
  ∃ D : DataW Value, w.ownsMap Try.prog 2 asIs B n D ∧ ∀ a : Int, 0 ≤ a → a < 40 → D.atKey (.int .i64 a) (.held (.int .i64 0)) = .held (.int .i64 (f a))
theorem LastAt.later {w w' : World} {B n : Nat} {f : Int → Int} (h : LastAt w B n f) (hb : Below w.heap.size w w') : LastAt w' B n f := by
  obtain ⟨D, h1, h2⟩ := h
  exact ⟨D, h1.kept (grown_below (row := none) hb) (by simp), h2⟩
theorem LastAt.put {w w' : World} {B n : Nat} {f : Int → Int} {D : DataW Value} {x i : Int} (h1 : w.ownsMap Try.prog 2 asIs B n D) (h2 : ∀ a : Int, 0 ≤ a → a < 40 → D.atKey (.int .i64 a) (.held (.int .i64 0)) = .held (.int .i64 (f a)))
    (hown : w'.ownsMap Try.prog 2 asIs B (n + 1) (D.put (.int .i64 x) (.held (.int .i64 i)))) : LastAt w' B (n + 1) (fun a => if a = x then i else f a) := by
  refine ⟨_, hown, fun a h3 h4 => ?_⟩
  by_cases e : a = x
  · subst e
    simp only [if_true]
    exact atKey_put_same h1.isMap (by trivial) _ _
  · simp only [if_neg e]
    exact (atKey_put_other (by intro h; injection h with _ h; exact e h) _ _).trans (h2 a h3 h4)

set_option maxHeartbeats 2000000 in
set_option maxRecDepth 4000 in
theorem lastOfEach {S : Nat → Prop} {w : World} {u : Value} {ps : List (Int × List Int)} (hu : RdP S w u ps) (hl : ps.length ≤ 60) (ha : ∀ i, i < ps.length → 0 ≤ (ps.getD i (0, [])).1 ∧ (ps.getD i (0, [])).1 < 40 ∧ (ps.getD i (0, [])).2.length ≤ 64) :
    Calls Try.prog 29 #[u] w fun e w' => ∃ z, e = .returned z ∧ Below w.heap.size w w' ∧ OwP (fun b => w.heap.size ≤ b ∧ b < w'.heap.size) w' z (absP ps ps.length ps.length) := by
  obtain ⟨i0, hi, hz0, hz1, hz2⟩ := info_parts Try.infoPut
  have HU := hide (RdP_old hu)
  have HA := hide ha
  have HPl := hide (absP_len ps ps.length)
  have HPa := hide (absP_at ps ps.length)
  have HPs : Hid (∀ k, absP ps ps.length (k + 1) = absP ps ps.length k ++ if lastI ps ps.length (ps.getD k (0, [])).1 = (k : Int) then [ps.getD k (0, [])] else []) := fun k => rfl
  have HLs : Hid (∀ k x, lastI ps (k + 1) x = if x = (ps.getD k (0, [])).1 then (k : Int) else lastI ps k x) := fun k x => rfl
  have HP0 : Hid ((absP ps ps.length 0).length = 0) := rfl
  have HL0 : Hid (∀ x, lastI ps 0 x = 0) := fun x => rfl
  obtain ⟨au, cu, rfl, _⟩ := hu.shape
  obtain ⟨n, hn⟩ : ∃ n, ps.length = n := ⟨_, rfl⟩
  have HN := hide hn
  rw [hn] at HU HA HPl HPa HPs HP0 hl ⊢
  clear hu ha hn
  obtain ⟨AP, hAP⟩ : ∃ AP, absP ps n = AP := ⟨_, rfl⟩
  rw [hAP] at HPl HPa HPs HP0 ⊢
  generalize lastI ps = LI at HPa HPs HLs HL0
  obtain ⟨R, hR⟩ : ∃ R, AP n = R := ⟨_, rfl⟩
  have HRR := hide hR
  rw [hR] at HPa ⊢
  clear hR
  clear hAP
  have hmm := @run_makeMap Try.prog
  have HM0 : Hid (LastAt (w.alloc (.map #[] 0)) w.heap.size 0 (LI 0)) := ⟨_, World.ownsMap_made w Try.prog 2 asIs, fun a _ _ => by rw [HL0.out]; rfl⟩
  have bM := hide (below_alloc w (.map #[] 0))
  go_enter Try.func29, Try.ntmps29
  go_wp2
  go_loopw [12] (fun i wr => ∃ k : Nat, k ≤ n ∧ i = .int .i64 (k : Int) ∧ Hid (Below w.heap.size w wr) ∧ Hid (LastAt wr w.heap.size k (LI k))) (fun i _ => n - (RowKit.intOf i).toNat)
  case atStart => exact ⟨0, Nat.zero_le _, rfl, bM.out, HM0.out⟩
  case round =>
    clear HM0 bM
    obtain ⟨k, hk, rfl, HB, HMk⟩ := hrel
    by_cases hlt : k < n
    · obtain ⟨b, off, V, rfl, q1, q2, q3⟩ := HU.out.at (k := k) (by rw [HN.out]; exact hlt)
      obtain ⟨a3, c3, rfl⟩ := q3.shape
      have g1 := cell_later HB.out q1
      have g2 := cell_later HB.out q2
      obtain ⟨hx1, hx2, _⟩ := HA.out k hlt
      have HLn := hide (HLs.out k)
      obtain ⟨x, hx⟩ : ∃ x, (ps.getD k (0, [])).1 = x := ⟨_, rfl⟩
      obtain ⟨l, hl'⟩ : ∃ l, (ps.getD k (0, [])).2.length = l := ⟨_, rfl⟩
      rw [hx] at g1 hx1 hx2 HLn
      rw [hl'] at g2
      have hkey : Hid (keyOf Try.prog 2 (.int .i64 x) = some (.int .i64 x)) := keyOf_int_mk Try.underlying2 (WalkArith.wf_i64 (by omega))
      obtain ⟨D, hown, hD⟩ := HMk.out
      have HD := hide hD
      have HO := hide hown
      have bA := hide (below_alloc wr (.cells #[.int .i64 x, .slice a3 l c3] 49))
      have HO2 := hide (hown.alloc (.cells #[.int .i64 x, .slice a3 l c3] 49))
      clear q1 q2 q3 hx hl' hown hD
      go_wp2_with (at_mapUpdate; refine wpList_mapUpdate_own _ rfl _ _ _ 76 rfl 2 3 lawI64 Try.underlying76 _ w.heap.size k _ rfl HO2.out (by unfold maxLen; omega) _ _ _ rfl rfl hkey.out _ [] (rfl : asIs _ = _) ?_; intro w1 hown1 hgrow1)
      have HM1 := hide (LastAt.put HO.out HD.out hown1)
      have hfn : (fun a => if a = x then (k : Int) else LI k a) = LI (k + 1) := funext fun a => (HLn.out a).symm
      rw [hfn] at HM1
      have HB1 := hide (below_grown (below_on HB.out bA.out) hgrow1 (Nat.le_refl _))
      clear hown1 hgrow1 hfn
      go_wp2
      go_roundw
      case rel => exact ⟨k + 1, hlt, by go_num, HB1.out, HM1.out⟩
      case measure => simp [RowKit.intOf]; omega
    · have hkm : k = n := by omega
      subst hkm
      obtain ⟨w1, hw1⟩ : ∃ w1, w1 = wr := ⟨_, rfl⟩
      subst hw1
      have hww := HB.out.size
      have hmb : w.heap.size < w1.heap.size := by obtain ⟨D, h1, _⟩ := HMk.out; exact h1.lt
      clear HLs HL0
      go_wp2
      go_loopw [6, 24] (fun v i wr => ∃ (q j : Nat) (ao : Option Addr) (c : Nat), q ≤ k ∧ i = .int .i64 (q : Int) ∧ v = .slice ao j c ∧ Hid (j = (AP q).length) ∧ Hid (BuiltP (w1.heap.size ≤ ·) wr (.slice ao j c) j R) ∧ Hid (Below w1.heap.size w1 wr)) (fun _ i _ => k - (RowKit.intOf i).toNat)
      case atStart => exact ⟨0, 0, none, 0, Nat.zero_le _, rfl, rfl, HP0.out.symm, BuiltP.nil _ _ _, Below.refl _ _⟩
      case round =>
        obtain ⟨q, j, aj, cj, hq, rfl, rfl, HJ, HBu, HB1⟩ := hrel
        have hjq : j ≤ q := by rw [HJ.out]; exact HPl.out q
        by_cases hlt2 : q < k
        · obtain ⟨b, off, V, rfl, q1, q2, q3⟩ := HU.out.at (k := q) (by rw [HN.out]; exact hlt2)
          obtain ⟨ao3, c3, rfl⟩ := q3.shape
          have HBB := hide (below_on HB.out HB1.out)
          have g1 := cell_later HBB.out q1
          have g2 := cell_later HBB.out q2
          obtain ⟨hx1, hx2, hx3⟩ := HA.out q hlt2
          have HSu := hide (HPs.out q)
          have HAt := hide (fun h => HPa.out q hlt2 h)
          have Rr := hide (q3.later HBB.out)
          obtain ⟨p, hp⟩ : ∃ p, ps.getD q (0, []) = p := ⟨_, rfl⟩
          rw [hp] at g1 g2 hx1 hx2 hx3 HSu HAt Rr
          obtain ⟨x, ws⟩ := p
          dsimp only at g1 g2 hx1 hx2 hx3 HSu HAt Rr
          obtain ⟨l, hl'⟩ : ∃ l, ws.length = l := ⟨_, rfl⟩
          have HLk : Hid (ws.length ≤ 1048576) := by rw [Hid]; omega
          rw [hl'] at g2 Rr
          have HLen := hide hl'
          have hkey : Hid (keyOf Try.prog 2 (.int .i64 x) = some (.int .i64 x)) := keyOf_int_mk Try.underlying2 (WalkArith.wf_i64 (by omega))
          obtain ⟨D, hown, hD⟩ := (HMk.out.later HB1.out).later (below_alloc wr (.cells #[.int .i64 x, .slice ao3 l c3] 49))
          obtain ⟨v', p', hrun, hv'⟩ := hown.lookup lawI64 Try.underlying76 (zeroInt _) (zd := .held (.int .i64 0)) (zp := []) rfl hkey.out
          have hvv : v' = .int .i64 (LI k x) := by
            rw [hD x hx1 hx2] at hv'
            injection hv' with h1
            injection h1 with h2
            injection h2
          subst hvv
          obtain ⟨cc, hcc⟩ : ∃ cc, LI k x = cc := ⟨_, rfl⟩
          rw [hcc] at hrun HSu HAt
          obtain ⟨V2, Bk2, hown2, hpr, hin⟩ := HBu.out
          have HOw0 := hide hown2
          have HPr := hide hpr
          have HIn := hide hin
          have hz := HB1.out.size
          clear q1 q2 q3 hp hl' hown hD hv' hin hown2 hpr hcc
          by_cases hck : cc = (q : Int)
          · subst hck
            have HX := hide (HAt.out rfl)
            rw [← HJ.out] at HX
            have HJn : Hid (j + 1 = (AP (q + 1)).length) := by rw [Hid, HSu.out, if_pos rfl, List.length_append, ← HJ.out]; rfl
            clear HAt HSu
            go_wp2_with fail
            clear g1 g2 hrun
            go_region_held3 (fun w' => w'.cell? ⟨wr.heap.size, 0, none⟩ = some (.int .i64 x) ∧ w'.cell? ⟨wr.heap.size, 1, none⟩ = some (.slice ao3 l c3)) (first | exact ⟨e0, e1⟩ | exact ⟨cell_later (below_alloc _ _) e0, cell_later (below_alloc _ _) e1⟩ | exact ⟨s0, s1⟩ | exact ⟨by simp [go_sem], by simp [go_sem]⟩)
              (first
                | (go_at_call 52; refine (copyWords (xs := ws) (by have h := (Rr.out.later (below_alloc wr (.cells #[.int .i64 x, .slice ao3 l c3] 49))).drewN 1; exact h) HLk.out).mono ?_; rintro e w2 ⟨z, rfl, hb1, ho1⟩; obtain ⟨ao4, c4, hz4⟩ := ho1.shape; rw [HLen.out] at hz4; subst hz4; have e0 : w2.cell? ⟨wr.heap.size, 0, none⟩ = some (.int .i64 x) := cell_later hb1 (by simp [go_sem]); have e1 : w2.cell? ⟨wr.heap.size, 1, none⟩ = some (.slice ao3 l c3) := cell_later hb1 (by simp [go_sem]); have HB2 := hide (below_on (below_on (below_alloc wr (.cells #[.int .i64 x, .slice ao3 l c3] 49)) (below_drewN _ 1)) hb1); have HO1 := hide (ho1.mono (B' := wr.heap.size) (by simp)); have hzz := hb1.size; clear hb1 ho1)
                | (refine step_append_lies _ (by rfl) _ _ _ (by rfl) 0 49 i0 (.agg #[.int .i64 0, .slice none 0 0]) 2 32 Try.underlying24 hi hz0 hz1 hz2 rfl (by omega) _ j _ (by rfl) (ownsRow_later (ownsRow_later HOw0.out HB2.out) (below_alloc w2 (.cells #[.int .i64 x, .slice ao4 l c4] 49))) ⟨w2.heap.size, 0, none⟩ 1 1 [.int .i64 x, .slice ao4 l c4] (by rfl) (by rfl) (World.news_of_block (cs := #[.int .i64 x, .slice ao4 l c4]) (t := 49) (fr := (0, 0)) (heap_alloc_new w2 _)) cells2_one (by omega) (by unfold maxLen; omega) (by omega) (Nat.zero_le _) (w2.heap.size + 1) (by simp) ?_; intro g cap w3 hown3 hgrow hat hlt3; have s0 : w3.cell? ⟨wr.heap.size, 0, none⟩ = some (.int .i64 x) := (hgrow.cell_far _ (by simp; simp at hzz; omega) (fun e => by have := (HOw0.out.lt _ e.symm).2; simp at this)).trans (cell_later (below_alloc _ _) e0); have s1 : w3.cell? ⟨wr.heap.size, 1, none⟩ = some (.slice ao3 l c3) := (hgrow.cell_far _ (by simp; simp at hzz; omega) (fun e => by have := (HOw0.out.lt _ e.symm).2; simp at this)).trans (cell_later (below_alloc _ _) e1)))
            have HSt := hide (BuiltP.step (P' := (w1.heap.size ≤ ·)) (ps := R) HIn.out HOw0.out HPr.out (fun _ h => h) (fun b hb => Nat.le_trans hz hb) HB2.out (by rw [HX.out]; exact HO1.out) (below_alloc w2 (.cells #[.int .i64 x, .slice ao4 l c4] 49)) (by rw [HX.out]; exact hown3) hgrow (by simpa using hat))
            have HB3 := hide ((below_on (below_on HB1.out HB2.out) (below_alloc w2 (.cells #[.int .i64 x, .slice ao4 l c4] 49))).grown hgrow (by simp; simp at hzz; omega) (fun r hr => HPr.out r hr))
            clear hown3 hgrow hat s0 s1 e0 e1 hzz
            go_wp2
            go_roundw
            case rel => exact ⟨q + 1, j + 1, _, _, hlt2, by go_num, rfl, HJn.out, HSt.out, HB3.out⟩
            case measure => simp [RowKit.intOf]; omega
          · have hckb : (cc == (q : Int)) = false := by simpa using hck
            have HJn : Hid (j = (AP (q + 1)).length) := by rw [Hid, HSu.out, if_neg hck, List.append_nil]; exact HJ.out
            have HBn := hide (HBu.out.later (below_alloc wr (.cells #[.int .i64 x, .slice ao3 l c3] 49)))
            have HB3 := hide (below_on HB1.out (below_alloc wr (.cells #[.int .i64 x, .slice ao3 l c3] 49)))
            clear HAt HSu
            go_wp2
            go_roundw
            case rel => exact ⟨q + 1, j, aj, cj, hlt2, by go_num, rfl, HJn.out, HBn.out, HB3.out⟩
            case measure => simp [RowKit.intOf]; omega
        · have hqk : q = k := by omega
          subst hqk
          have hj : R.length = j := by rw [HJ.out, HRR.out]
          have HJe := hide hj
          clear hj
          go_wp2
          go_ret
          exact ⟨_, rfl, below_on HB.out HB1.out, (HBu.out.ow HJe.out (by omega)).mono (fun b hb => ⟨by have := hb.1; omega, hb.2⟩)⟩
end Go.Proofs.Ytdfndgeoaagihaa
