/- Po4 in one text: what each says stands at its head below. -/
import Derived.Test.YtamknomapabmfaaGreatG42
/- Chapter 5: 'impl.putsOfParts', walked (under way). -/
namespace Go.Proofs.YtamknomapabmfaaGreat
open Go.RowKit Go.Maps

theorem poM_len {M : Int → List Int} {os : List Oj} (hM : ∀ a, (M a).length ≤ 64) (ho : ∀ i, i < os.length → (os.getD i oj0).2.1.toNat + (os.getD i oj0).2.2.length ≤ 64) : ∀ k, k ≤ os.length → ∀ a, (poM M os k a).length ≤ 64
  | 0, _, a => hM a
  | k + 1, hk, a => by
    rw [poM_succ _ _ _ (by omega), ojM, putM]
    have ih := poM_len hM ho k (by omega)
    split
    · dsimp only
      rw [mrgL_len]
      have := ho k (by omega)
      have := ih (os.getD k oj0).1
      omega
    · exact ih a

def vkOf (D : DataW Value) (a : Int) : Value := match D.atKey (.int .i64 a) (.held (.slice none 0 0)) with
  | .held v => v
  | _ => .slice none 0 0
theorem vkOf_eq {D : DataW Value} {a : Int} {v : Value} (h : D.atKey (.int .i64 a) (.held (.slice none 0 0)) = .held v) : vkOf D a = v := by unfold vkOf; rw [h]
/-- The puts that are told. -/
def poR (L : List Int) (M : Int → List Int) : List (Int × List Int) := L.map fun a => (a, M a)
theorem poR_at (L : List Int) (M : Int → List Int) (t : Nat) (h : t < L.length) : (poR L M).getD t (0, []) = (L.getD t 0, M (L.getD t 0)) := by simp [poR, List.getD, h]
theorem PoAt.built {base : Nat} {wE wr : World} {B j : Nat} {row : Option Nat} {M : Int → List Int} {L : List Int} {D : DataW Value} {Bk : Int → Nat} {z : Value} (hj : L.length = j) (hnd : L.Nodup) (hbase : base ≤ wE.heap.size)
    (h4 : ∀ a ∈ L, (∃ v, D.atKey (.int .i64 a) (.held (.slice none 0 0)) = .held v ∧ RdI (· = Bk a) wE v (M a)) ∧ base ≤ Bk a ∧ Bk a < wE.heap.size ∧ (∀ o, wE.frozen? ⟨Bk a, o, none⟩ = false) ∧ Bk a ≠ B ∧ row ≠ some (Bk a) ∧ ∀ a' ∈ L, Bk a' = Bk a → a' = a)
    (hb : Below wE.heap.size wE wr) (hr : wr.ownsRow wE.heap.size 38 2 z j (cellsP (poR L M) j (fun t => vkOf D (L.getD t 0)))) : BuiltP (base ≤ ·) wr z j (poR L M) := by
  have hs := hb.size
  have mem : ∀ t, t < j → L.getD t 0 ∈ L := fun t ht => by simp [List.getD, show t < L.length by omega]
  refine ⟨_, fun t => Bk (L.getD t 0), ⟨hr.1, hr.2.imp id (fun ⟨g, cap, cur, k1, _, k3⟩ => ⟨g, cap, cur, k1, Nat.zero_le _, k3⟩)⟩, fun r hr' => Nat.le_trans hbase (hr.lt r hr').1, fun t ht => ?_, fun t ht _ => ?_⟩
  · rw [poR_at _ _ _ (by omega)]
    obtain ⟨⟨v, e, r⟩, _⟩ := h4 _ (mem t ht)
    rw [vkOf_eq e]
    exact r.later hb
  · obtain ⟨_, k1, k2, k3, _, _, k6⟩ := h4 _ (mem t ht)
    refine ⟨k1, by omega, fun o => ((bcell hb).2 _ _ k2).trans (k3 o), fun e => ?_, fun t' ht' _ e => ?_⟩
    · have := (hr.lt _ e).1; omega
    · have h := k6 _ (mem t' ht') e
      simp [List.getD, show t < L.length by omega, show t' < L.length by omega] at h
      rcases Nat.lt_trichotomy t' t with h1 | h1 | h1
      · exact absurd h (List.pairwise_iff_getElem.1 hnd t' t (by omega) (by omega) h1)
      · exact h1
      · exact absurd h.symm (List.pairwise_iff_getElem.1 hnd t t' (by omega) (by omega) h1)
theorem cellsP_nextJ (ps : List (Int × List Int)) (k : Nat) (V : Nat → Value) : cellsP ps (k + 1) V = cellsP ps k V ++ [.int .i64 (ps.getD k (0, [])).1, V k] := by
  rw [← cellsP_succ ps k V (V k)]
  congr 1
  funext i
  by_cases e : i = k
  · subst e; rw [if_pos rfl]
  · rw [if_neg e]

theorem mapFar {w w' : World} {B P : Nat} (h : w.mapTurned w' B) (hP : P < w.heap.size) (hB : B < P) : ∀ o : Nat, w'.cell? ⟨P, o, none⟩ = w.cell? ⟨P, o, none⟩ := fun o =>
  World.cell?_of_block (h.grown.block P hP (fun e => by injection e with e; omega))

set_option maxHeartbeats 4000000 in
set_option maxRecDepth 4000 in
/-- 'impl.putsOfParts' of a view and objects without fault. -/
theorem putsOfParts {S T : Nat → Prop} {w : World} {u v : Value} {vs : List (Int × List Int)} {os : List Oj} (hu : RdP S w u vs) (hv : RdJ T w v os) (h1 : hpF 60 vs = 0) (h2 : ∀ i, i < os.length → objF (os.getD i oj0).1 (os.getD i oj0).2.1 (os.getD i oj0).2.2 = 0) (h3 : os.length ≤ 12) :
    Calls Tryz.prog 27 #[u, v] w fun e w' => ∃ z, e = .returned z ∧ Below w.heap.size w w' ∧ OwP (fun b => w.heap.size ≤ b ∧ b < w'.heap.size) w' z (poR (poL os os.length) (poM (vs.foldl putM fun _ => []) os os.length)) := by
  obtain ⟨i0, hi, hz0, hz1, hz2⟩ := info_parts Tryz.infoInt
  obtain ⟨i1, hj', hy0, hy1, hy2⟩ := info_parts Tryz.infoPut
  have HA1 := hide (hpF_all h1)
  have HOb : Hid (∀ i, i < os.length → 0 ≤ (os.getD i oj0).1 ∧ (os.getD i oj0).1 < 40 ∧ 0 ≤ (os.getD i oj0).2.1 ∧ 0 < (os.getD i oj0).2.2.length ∧ (os.getD i oj0).2.1.toNat + (os.getD i oj0).2.2.length ≤ 64) := fun i hi => by
    obtain ⟨⟨k1, k2, k3, k4⟩, k5, _⟩ := objF_zero (h2 i hi)
    omega
  have HU := hide (RdP_old hu)
  have HV := hide hv
  obtain ⟨au, cu, rfl, _⟩ := hu.shape
  obtain ⟨av, cv, rfl, _⟩ := hv.shape
  have HLs := hide (poL_succ os)
  have HLf := hide (poL_facts (os := os) (fun i hi => ⟨(HOb.out i hi).1, (HOb.out i hi).2.1⟩))
  obtain ⟨M0, hM0⟩ : ∃ M0, vs.foldl putM (fun _ => []) = M0 := ⟨_, rfl⟩
  have HM0 : Hid (∀ a, (M0 a).length ≤ 64) := fun a => by rw [← hM0]; exact foldl_len (by simp) (fun i hi => (HA1.out.2 i hi).2.2)
  have HMs := hide (poM_succ M0 os)
  have HMl := hide (poM_len (M := M0) (os := os) HM0.out (fun i hi => (HOb.out i hi).2.2.2.2))
  obtain ⟨nv, hnv⟩ : ∃ nv, vs.length = nv := ⟨_, rfl⟩
  obtain ⟨n, hn⟩ : ∃ n, os.length = n := ⟨_, rfl⟩
  have HNv := hide hnv
  have HN := hide hn
  rw [hnv] at HU ⊢
  rw [hn] at HV HOb HLs HLf HMs HMl h3 ⊢
  rw [hM0]
  have hmm := @run_makeMap Tryz.prog
  have bM := hide (below_alloc w (.map #[] 0))
  have HS0 : Hid (SeenAt (w.alloc (.map #[] 0)) w.heap.size 0 fun _ => []) :=
    ⟨_, World.ownsMap_made w Tryz.prog 2 asIs, fun a _ _ => ⟨.slice none 0 0, rfl, ⟨none, 0, rfl, Nat.zero_le _, fun h => absurd rfl h⟩⟩, fun a => ⟨fun h => absurd h (by simp [has_eq]), fun h => absurd rfl h.2.2⟩⟩
  have HP1 := hide (seenPut HS0.out (HU.out.later bM.out) (fun b hb => by omega) (fun i hi => ⟨(HA1.out.2 i hi).1, (HA1.out.2 i hi).2.1⟩) (by have := HA1.out.1; omega))
  rw [hM0, HNv.out] at HP1
  have HM0e : Hid (poM M0 os 0 = M0) := rfl
  have HL0e : Hid (poL os 0 = []) := rfl
  generalize poL os = LL at HLs HLf HL0e
  generalize poM M0 os = MM at HMs HMl HM0e
  obtain ⟨R, hR⟩ : ∃ R, poR (LL n) (MM n) = R := ⟨_, rfl⟩
  have HRR := hide hR
  rw [hR]
  clear hu hv h1 h2 hnv hn hM0 HS0 hR
  go_enter Tryz.func27, Tryz.ntmps27
  go_wp2_with fail
  refine HP1.out.mono ?_
  rintro e w2 ⟨rfl, hg2, hs2⟩
  have B2 := hide (below_grown bM.out hg2 (by omega))
  have HPo : Hid (PoAt w.heap.size w2 w.heap.size (0 + nv) none (MM 0) (LL 0)) := by
    obtain ⟨D, k1, k2, _⟩ := hs2
    rw [Hid, HM0e.out, HL0e.out]
    exact ⟨D, k1, by simp, by simp, fun a p q => by obtain ⟨v, e, r⟩ := k2 a p q; exact ⟨v, e, r.narrow (fun _ b hb => ⟨hb, by simp⟩)⟩, fun _ => 0, fun a ha => by simp at ha⟩
  have HRw : Hid (w2.ownsRow w.heap.size 2 1 (.slice none 0 0) (LL 0).length ((LL 0).map (Value.int .i64))) := by rw [Hid, HL0e.out]; exact World.ownsRow_nil _ _ _ _
  have HL0l : Hid ((LL 0).length = 0) := by rw [Hid, HL0e.out]; rfl
  clear hg2 hs2 HP1 bM hmm
  go_wp2
  go_loopw [6, 18] (fun vo i wr => ∃ (k j : Nat) (ao : Option Addr) (c : Nat), k ≤ n ∧ i = .int .i64 (k : Int) ∧ vo = .slice ao j c ∧ Hid ((LL k).length = j) ∧ Hid (wr.ownsRow w.heap.size 2 1 (.slice ao j c) j ((LL k).map (Value.int .i64))) ∧ Hid (PoAt w.heap.size wr w.heap.size (0 + nv + k) (Value.slice ao j c).ownBlock (MM k) (LL k)) ∧ Hid (Below w.heap.size w wr)) (fun _ i _ => n - (RowKit.intOf i).toNat)
  case atStart => exact ⟨0, 0, none, 0, Nat.zero_le _, rfl, rfl, HL0l.out, by have h := HRw.out; rw [HL0l.out] at h; exact h, HPo.out, B2.out⟩
  case round =>
    clear HPo HRw B2
    obtain ⟨k, j, ao, c, hk, rfl, rfl, HJ, HRow, HPo, HB⟩ := hrel
    by_cases hlt : k < n
    · obtain ⟨b, off, vv, rfl, q0, q1, q2, q3⟩ := HV.out.at (k := k) (by rw [HN.out]; exact hlt)
      obtain ⟨a3, c3, rfl⟩ := q3.shape
      have g0 := cell_later HB.out q0
      have g1 := cell_later HB.out q1
      have g2 := cell_later HB.out q2
      have q3o := q3
      have HY := hide (q3.later HB.out)
      have HSu := hide (HLs.out k hlt)
      have HMu := hide (HMs.out k hlt)
      have hob := HOb.out k hlt
      obtain ⟨p, hp⟩ : ∃ p, os.getD k oj0 = p := ⟨_, rfl⟩
      rw [hp] at g0 g1 g2 HY HSu HMu hob q3o
      obtain ⟨x, f, xs⟩ := p
      dsimp only at g0 g1 g2 HY hob q3o
      obtain ⟨F, hF⟩ : ∃ F : Nat, f = (F : Int) := ⟨f.toNat, by omega⟩
      subst hF
      obtain ⟨hx1, hx2, _, hx4, hx5⟩ := hob
      rw [Int.toNat_natCast] at hx5
      obtain ⟨l, hl⟩ : ∃ l, xs.length = l := ⟨_, rfl⟩
      have HL := hide hl
      rw [hl] at g2 HY hx4 hx5 q3o
      have bA := hide (below_alloc wr (.cells #[.int .i64 x, .int .i64 (F : Int), .slice a3 l c3] 26))
      have hjk : j ≤ k := by rw [← HJ.out]; exact (HLf.out k hk).2.1
      have HRo : Hid (RdI (fun _ => True) (wr.alloc (.cells #[.int .i64 x, .int .i64 (F : Int), .slice a3 l c3] 26)) (.slice ao j c) (LL k)) :=
        ((ow_of_owns HJ.out HRow.out (by rw [HJ.out]; omega)).rd.narrow (fun _ _ _ => trivial)).later bA.out
      have HVx : Hid (RdI (fun b => b < w.heap.size) w (.slice a3 l c3) xs) := q3o.ltS.narrow (fun _ b hb => hb.2)
      have hwB : w.heap.size < wr.heap.size := by obtain ⟨_, h1, _⟩ := HPo.out; exact h1.lt
      have HMn : Hid (∀ ws, MM k x = ws → MM (k + 1) = putM (MM k) (x, mrgL ws F xs)) := fun ws e => by rw [HMu.out, ojM]; simp [e]
      clear q0 q1 q2 q3 q3o hp hl
      obtain ⟨L, hLL⟩ : ∃ L, LL k = L := ⟨_, rfl⟩
      rw [hLL] at HRo HJ HRow HPo HSu
      clear hLL
      by_cases hin : x ∈ L
      · have hdec : decide (x ∈ L) = true := decide_eq_true hin
        have HLn : Hid (LL (k + 1) = L) := by rw [Hid, HSu.out, ordL, if_pos hin]
        have HJn : Hid ((LL (k + 1)).length = j) := by rw [Hid, HLn.out]; exact HJ.out
        go_wp2_with fail
        refine (containsI x HRo.out).mono ?_
        rintro e w' ⟨hw, rfl⟩
        subst hw
        rw [hdec]
        have HPx := hide (HPo.out.later bA.out)
        have HYx := hide (HY.out.later bA.out)
        have HRx := hide (ownsRow_later HRow.out bA.out)
        have HBx := hide (below_on HB.out bA.out)
        have hXP : wr.heap.size ≤ (wr.alloc (.cells #[.int .i64 x, .int .i64 (F : Int), .slice a3 l c3] 26)).drew.heap.size := by simp
        have HC0 : Hid ((wr.alloc (.cells #[.int .i64 x, .int .i64 (F : Int), .slice a3 l c3] 26)).cell? ⟨wr.heap.size, 0, none⟩ = some (.int .i64 x)) := by simp [Hid, go_sem]
        have HC1 : Hid ((wr.alloc (.cells #[.int .i64 x, .int .i64 (F : Int), .slice a3 l c3] 26)).cell? ⟨wr.heap.size, 1, none⟩ = some (.int .i64 (F : Int))) := by simp [Hid, go_sem]
        have HC2 : Hid ((wr.alloc (.cells #[.int .i64 x, .int .i64 (F : Int), .slice a3 l c3] 26)).cell? ⟨wr.heap.size, 2, none⟩ = some (.slice a3 l c3)) := by simp [Hid, go_sem]
        have HBd : Hid (Below (wr.alloc (.cells #[.int .i64 x, .int .i64 (F : Int), .slice a3 l c3] 26)).heap.size (wr.alloc (.cells #[.int .i64 x, .int .i64 (F : Int), .slice a3 l c3] 26)) (wr.alloc (.cells #[.int .i64 x, .int .i64 (F : Int), .slice a3 l c3] 26)).drew) := below_drewN _ 1
        have HPd := hide (HPx.out.later HBd.out)
        have HYd := hide (HYx.out.later HBd.out)
        have HRd := hide (ownsRow_later HRx.out HBd.out)
        have c0 := cell_later HBd.out HC0.out
        have c1 := cell_later HBd.out HC1.out
        have c2 := cell_later HBd.out HC2.out
        obtain ⟨D, hown, hnB, hrl, h3', Bk, h4'⟩ := HPd.out
        have hkey : Hid (keyOf Tryz.prog 2 (.int .i64 x) = some (.int .i64 x)) := keyOf_int_mk Tryz.underlying2 (WalkArith.wf_i64 (by omega))
        obtain ⟨v4, hat4, hr4⟩ := h3' x hx1 hx2
        obtain ⟨a4, c4, rfl⟩ := hr4.shape
        have HZl : Hid ((MM k x).length ≤ 64) := HMl.out k hk x
        have H3 := hide h3'
        have H4 := hide h4'
        have HnB := hide hnB
        have Hrl := hide hrl
        obtain ⟨ws, hws⟩ : ∃ ws, MM k x = ws := ⟨_, rfl⟩
        have HWs := hide hws
        rw [hws] at hat4 hr4 HZl
        obtain ⟨l4, hl4⟩ : ∃ l4, ws.length = l4 := ⟨_, rfl⟩
        rw [hl4] at hat4 hr4
        have HZ := hide hr4
        have HOn := hide hown
        have HLk : Hid (∀ w', Below (wr.alloc (.cells #[.int .i64 x, .int .i64 (F : Int), .slice a3 l c3] 26)).drew.heap.size (wr.alloc (.cells #[.int .i64 x, .int .i64 (F : Int), .slice a3 l c3] 26)).drew w' → (Instr.lookup 75 (.map (some w.heap.size)) (.int .i64 x) false).run Tryz.prog w' = .ok (.slice a4 l4 c4) w') := fun w' hb => by
          obtain ⟨v', p', hrun, hv'⟩ := (HOn.out.kept (grown_below (row := none) hb) (by simp)).lookup lawI64 Tryz.underlying75 (zeroWords w') (zd := .held (.slice none 0 0)) (zp := []) rfl hkey.out
          have hvv : v' = .slice a4 l4 c4 := by
            rw [hat4] at hv'
            injection hv' with h1
            injection h1 with h2
            injection h2
          rw [hvv] at hrun
          exact hrun
        have hl0 := HLk.out _ (Below.refl _ _)
        have hne : mrgL ws F xs ≠ [] := fun e => by have h := mrgL_len ws F xs; rw [e, HL.out] at h; simp at h; omega
        have HNe := hide hne
        have hXw : w.heap.size ≤ (wr.alloc (.cells #[.int .i64 x, .int .i64 (F : Int), .slice a3 l c3] 26)).heap.size := HBx.out.size
        clear hown h3' h4' hat4 hr4 hws hl4 hne hnB hrl
        go_wp2_with fail
        go_region_held3 (fun w' => w'.cell? ⟨wr.heap.size, 0, none⟩ = some (.int .i64 x) ∧ w'.cell? ⟨wr.heap.size, 1, none⟩ = some (.int .i64 (F : Int)) ∧ w'.cell? ⟨wr.heap.size, 2, none⟩ = some (.slice a3 l c3)) (first | exact ⟨s0, s1, s2⟩ | exact ⟨e0, e1, e2⟩ | exact ⟨d0, d1, d2⟩ | exact ⟨c0, c1, c2⟩)
          (first
            | (go_at_call 17; refine (partOf _ x (F : Int) a3 l c3).mono ?_; rintro e w3 ⟨rfl, hb3⟩; have d0 := cell_later hb3 c0; have d1 := cell_later hb3 c1; have d2 := cell_later hb3 c2; have hl1 := HLk.out w3 hb3; have HB3 := hide hb3; clear hb3)
            | (go_at_call 55; refine (mergedInto x F (HYd.out.later HB3.out) (HZ.out.later HB3.out) (by rw [HL.out]; exact hx5) (by rw [HL.out]; exact hx4) HZl.out).mono ?_; rintro e w4 ⟨z, rfl, hb4, ho4⟩; obtain ⟨a5, c5, hz5⟩ := ho4.shape; obtain ⟨lm, hlm⟩ : ∃ lm, (mrgL ws F xs).length = lm := ⟨_, rfl⟩; rw [hlm] at hz5; subst hz5; have HO4 := hide (ho4.mono (B' := (wr.alloc (.cells #[.int .i64 x, .int .i64 (F : Int), .slice a3 l c3] 26)).drew.heap.size) HB3.out.size); have HB4 := hide (below_on HB3.out hb4); have e0 := cell_later hb4 d0; have e1 := cell_later hb4 d1; have e2 := cell_later hb4 d2; have hl2 := HLk.out w4 HB4.out; obtain ⟨w5, hst, hown5, htn5⟩ := (HOn.out.kept (grown_below (row := none) HB4.out) (by simp)).store lawI64 Tryz.underlying75 (by unfold maxLen; have := HNv.out; have := HA1.out.1; omega) hkey.out (rfl : asIs (.slice a5 lm c5) = _); have hsz4 : wr.heap.size < w4.heap.size := World.block_lt_of_cell? w4 ⟨wr.heap.size, 0, none⟩ e0; have hfar : ∀ o : Nat, w5.cell? ⟨wr.heap.size, o, none⟩ = w4.cell? ⟨wr.heap.size, o, none⟩ := mapFar htn5 hsz4 hwB; have s0 := (hfar 0).trans e0; have s1 := (hfar 1).trans e1; have s2 := (hfar 2).trans e2; clear hb4 ho4 hlm hfar))
        all_goals
          have HPn := hide (PoAt.put (L' := L) (HOn.out.kept (grown_below (row := none) HB4.out) (by simp)) HnB.out Hrl.out HB4.out H3.out H4.out (Nat.lt_of_lt_of_le hwB hXP) hXw HO4.out HNe.out (fun a ha => Or.inr ha) hown5 htn5.grown)
          have HRn := hide ((ownsRow_later HRd.out HB4.out).kept htn5.grown (Or.inr (fun e => HnB.out e)))
          have HBn := hide (below_grown (below_on HBx.out (below_on HBd.out HB4.out)) htn5.grown (Nat.le_refl _))
          rw [← HMn.out ws HWs.out] at HPn
          clear hst hown5 htn5 s0 s1 s2 e0 e1 e2 d0 d1 d2 hl0 hl1 hl2 c0 c1 c2
          go_wp2
          go_roundw
          case rel => exact ⟨k + 1, j, _, _, hlt, by go_num, rfl, HJn.out, by rw [HLn.out]; exact HRn.out, by rw [HLn.out]; exact HPn.out, HBn.out⟩
          case measure => simp [RowKit.intOf]; omega
      · have hdec : decide (x ∈ L) = false := decide_eq_false hin
        have HLn : Hid (LL (k + 1) = L ++ [x]) := by rw [Hid, HSu.out, ordL, if_neg hin]
        have HJn : Hid ((LL (k + 1)).length = j + 1) := by rw [Hid, HLn.out, List.length_append, HJ.out]; rfl
        go_wp2_with fail
        refine (containsI x HRo.out).mono ?_
        rintro e w' ⟨hw, rfl⟩
        subst hw
        rw [hdec]
        have HPx0 := hide ((HPo.out.later bA.out).later (below_alloc (wr.alloc (.cells #[.int .i64 x, .int .i64 (F : Int), .slice a3 l c3] 26)) (.cells #[.int .i64 x] 2)))
        have HRx0 := hide (ownsRow_later (ownsRow_later HRow.out bA.out) (below_alloc (wr.alloc (.cells #[.int .i64 x, .int .i64 (F : Int), .slice a3 l c3] 26)) (.cells #[.int .i64 x] 2)))
        have HC00 : Hid (((wr.alloc (.cells #[.int .i64 x, .int .i64 (F : Int), .slice a3 l c3] 26)).alloc (.cells #[.int .i64 x] 2)).cell? ⟨wr.heap.size, 0, none⟩ = some (.int .i64 x)) := by simp [Hid, go_sem]
        have HC10 : Hid (((wr.alloc (.cells #[.int .i64 x, .int .i64 (F : Int), .slice a3 l c3] 26)).alloc (.cells #[.int .i64 x] 2)).cell? ⟨wr.heap.size, 1, none⟩ = some (.int .i64 (F : Int))) := by simp [Hid, go_sem]
        have HC20 : Hid (((wr.alloc (.cells #[.int .i64 x, .int .i64 (F : Int), .slice a3 l c3] 26)).alloc (.cells #[.int .i64 x] 2)).cell? ⟨wr.heap.size, 2, none⟩ = some (.slice a3 l c3)) := by simp [Hid, go_sem]
        have HNw : Hid (∀ jj uu, ([.int .i64 x] : List Value)[jj]? = some uu → ((wr.alloc (.cells #[.int .i64 x, .int .i64 (F : Int), .slice a3 l c3] 26)).alloc (.cells #[.int .i64 x] 2)).cell? ((⟨wr.heap.size + 1, 0, none⟩ : Addr).add jj) = some uu) := by
          have h := World.news_of_block (cs := #[.int .i64 x]) (t := 2) (fr := (0, 0)) (heap_alloc_new (wr.alloc (.cells #[.int .i64 x, .int .i64 (F : Int), .slice a3 l c3] 26)) (.cells #[.int .i64 x] 2))
          rw [World.size_alloc] at h
          exact h
        have hrw : ∀ r, (Value.slice ao j c).ownBlock = some r → w.heap.size ≤ r ∧ r < wr.heap.size := fun r hr => HRow.out.lt r hr
        go_wp2_with (at_builtin; refine wpList_append_lies _ rfl _ _ _ rfl w.heap.size 2 i0 (.int .i64 0) 1 8 Tryz.underlying24 hi hz0 hz1 hz2 rfl (by omega) _ j _ (by rfl) HRx0.out ⟨wr.heap.size + 1, 0, none⟩ 1 1 [.int .i64 x] (by rfl) (by rfl) HNw.out (by simp [Value.oneCell']) (by omega) (by unfold maxLen; omega) (by omega) (by simp; omega) (wr.heap.size + 1 + 1) (by simp) ?_)
        intro g cap w6 hown6 hgrow6 hat6 hlt6
        have HPx := hide (HPx0.out.rowed hgrow6 (by simpa using hat6) hlt6)
        have HRx : Hid (w6.ownsRow w.heap.size 2 1 (.slice (some ⟨g, 0, none⟩) (j + 1) cap) (j + 1) ((L ++ [x]).map (Value.int .i64))) := by rw [Hid, List.map_append]; exact hown6
        have HBx0 := hide (below_on (below_on HB.out bA.out) (below_alloc (wr.alloc (.cells #[.int .i64 x, .int .i64 (F : Int), .slice a3 l c3] 26)) (.cells #[.int .i64 x] 2)))
        have HBx := hide (HBx0.out.grown hgrow6 HBx0.out.size (fun r hr => (hrw r hr).1))
        have hsz6 := hgrow6.size
        have HYx := hide (((HVx.out.later HBx0.out).grownJ (fun _ b hb e => by have := hrw b e.symm; omega) hgrow6))
        have HC0 := hide ((hgrow6.cell_far ⟨wr.heap.size, 0, none⟩ (by simp; omega) (fun e => by have := hrw _ e.symm; dsimp only at this; omega)).trans HC00.out)
        have HC1 := hide ((hgrow6.cell_far ⟨wr.heap.size, 1, none⟩ (by simp; omega) (fun e => by have := hrw _ e.symm; dsimp only at this; omega)).trans HC10.out)
        have HC2 := hide ((hgrow6.cell_far ⟨wr.heap.size, 2, none⟩ (by simp; omega) (fun e => by have := hrw _ e.symm; dsimp only at this; omega)).trans HC20.out)
        have hXP : wr.heap.size ≤ w6.drew.heap.size := by show wr.heap.size ≤ w6.heap.size; simp at hsz6; omega
        clear hown6 hgrow6 hat6 hlt6 hrw
        have HBd : Hid (Below w6.heap.size w6 w6.drew) := below_drewN _ 1
        have HPd := hide (HPx.out.later HBd.out)
        have HYd := hide (HYx.out.later HBd.out)
        have HRd := hide (ownsRow_later HRx.out HBd.out)
        have c0 := cell_later HBd.out HC0.out
        have c1 := cell_later HBd.out HC1.out
        have c2 := cell_later HBd.out HC2.out
        obtain ⟨D, hown, hnB, hrl, h3', Bk, h4'⟩ := HPd.out
        have hkey : Hid (keyOf Tryz.prog 2 (.int .i64 x) = some (.int .i64 x)) := keyOf_int_mk Tryz.underlying2 (WalkArith.wf_i64 (by omega))
        obtain ⟨v4, hat4, hr4⟩ := h3' x hx1 hx2
        obtain ⟨a4, c4, rfl⟩ := hr4.shape
        have HZl : Hid ((MM k x).length ≤ 64) := HMl.out k hk x
        have H3 := hide h3'
        have H4 := hide h4'
        have HnB := hide hnB
        have Hrl := hide hrl
        obtain ⟨ws, hws⟩ : ∃ ws, MM k x = ws := ⟨_, rfl⟩
        have HWs := hide hws
        rw [hws] at hat4 hr4 HZl
        obtain ⟨l4, hl4⟩ : ∃ l4, ws.length = l4 := ⟨_, rfl⟩
        rw [hl4] at hat4 hr4
        have HZ := hide hr4
        have HOn := hide hown
        have HLk : Hid (∀ w', Below w6.drew.heap.size w6.drew w' → (Instr.lookup 75 (.map (some w.heap.size)) (.int .i64 x) false).run Tryz.prog w' = .ok (.slice a4 l4 c4) w') := fun w' hb => by
          obtain ⟨v', p', hrun, hv'⟩ := (HOn.out.kept (grown_below (row := none) hb) (by simp)).lookup lawI64 Tryz.underlying75 (zeroWords w') (zd := .held (.slice none 0 0)) (zp := []) rfl hkey.out
          have hvv : v' = .slice a4 l4 c4 := by
            rw [hat4] at hv'
            injection hv' with h1
            injection h1 with h2
            injection h2
          rw [hvv] at hrun
          exact hrun
        have hl0 := HLk.out _ (Below.refl _ _)
        have hne : mrgL ws F xs ≠ [] := fun e => by have h := mrgL_len ws F xs; rw [e, HL.out] at h; simp at h; omega
        have HNe := hide hne
        have hXw : w.heap.size ≤ w6.heap.size := HBx.out.size
        clear hown h3' h4' hat4 hr4 hws hl4 hne hnB hrl
        go_wp2_with fail
        go_region_held3 (fun w' => w'.cell? ⟨wr.heap.size, 0, none⟩ = some (.int .i64 x) ∧ w'.cell? ⟨wr.heap.size, 1, none⟩ = some (.int .i64 (F : Int)) ∧ w'.cell? ⟨wr.heap.size, 2, none⟩ = some (.slice a3 l c3)) (first | exact ⟨s0, s1, s2⟩ | exact ⟨e0, e1, e2⟩ | exact ⟨d0, d1, d2⟩ | exact ⟨c0, c1, c2⟩)
          (first
            | (go_at_call 17; refine (partOf _ x (F : Int) a3 l c3).mono ?_; rintro e w3 ⟨rfl, hb3⟩; have d0 := cell_later hb3 c0; have d1 := cell_later hb3 c1; have d2 := cell_later hb3 c2; have hl1 := HLk.out w3 hb3; have HB3 := hide hb3; clear hb3)
            | (go_at_call 55; refine (mergedInto x F (HYd.out.later HB3.out) (HZ.out.later HB3.out) (by rw [HL.out]; exact hx5) (by rw [HL.out]; exact hx4) HZl.out).mono ?_; rintro e w4 ⟨z, rfl, hb4, ho4⟩; obtain ⟨a5, c5, hz5⟩ := ho4.shape; obtain ⟨lm, hlm⟩ : ∃ lm, (mrgL ws F xs).length = lm := ⟨_, rfl⟩; rw [hlm] at hz5; subst hz5; have HO4 := hide (ho4.mono (B' := w6.drew.heap.size) HB3.out.size); have HB4 := hide (below_on HB3.out hb4); have e0 := cell_later hb4 d0; have e1 := cell_later hb4 d1; have e2 := cell_later hb4 d2; have hl2 := HLk.out w4 HB4.out; obtain ⟨w5, hst, hown5, htn5⟩ := (HOn.out.kept (grown_below (row := none) HB4.out) (by simp)).store lawI64 Tryz.underlying75 (by unfold maxLen; have := HNv.out; have := HA1.out.1; omega) hkey.out (rfl : asIs (.slice a5 lm c5) = _); have hsz4 : wr.heap.size < w4.heap.size := World.block_lt_of_cell? w4 ⟨wr.heap.size, 0, none⟩ e0; have hfar : ∀ o : Nat, w5.cell? ⟨wr.heap.size, o, none⟩ = w4.cell? ⟨wr.heap.size, o, none⟩ := mapFar htn5 hsz4 hwB; have s0 := (hfar 0).trans e0; have s1 := (hfar 1).trans e1; have s2 := (hfar 2).trans e2; clear hb4 ho4 hlm hfar))
        all_goals
          have HPn := hide (PoAt.put (L' := (L ++ [x])) (HOn.out.kept (grown_below (row := none) HB4.out) (by simp)) HnB.out Hrl.out HB4.out H3.out H4.out (Nat.lt_of_lt_of_le hwB hXP) hXw HO4.out HNe.out (fun a ha => (List.mem_append.1 ha).elim Or.inr (fun h => Or.inl (List.mem_singleton.1 h))) hown5 htn5.grown)
          have HRn := hide ((ownsRow_later HRd.out HB4.out).kept htn5.grown (Or.inr (fun e => HnB.out e)))
          have HBn := hide (below_grown (below_on HBx.out (below_on HBd.out HB4.out)) htn5.grown (Nat.le_refl _))
          rw [← HMn.out ws HWs.out] at HPn
          clear hst hown5 htn5 s0 s1 s2 e0 e1 e2 d0 d1 d2 hl0 hl1 hl2 c0 c1 c2
          go_wp2
          go_roundw
          case rel => exact ⟨k + 1, (j + 1), _, _, hlt, by go_num, rfl, HJn.out, by rw [HLn.out]; exact HRn.out, by rw [HLn.out]; exact HPn.out, HBn.out⟩
          case measure => simp [RowKit.intOf]; omega
    · -- end of the first loop
      have hkn : k = n := by omega
      subst hkn
      obtain ⟨wE, hwE⟩ : ∃ wE, wE = wr := ⟨_, rfl⟩
      subst hwE
      have HLfn := hide (HLf.out k (Nat.le_refl _))
      generalize LL k = L at HJ HRow HPo HLfn HRR
      generalize MM k = M at HPo HRR
      have HRo := hide ((ow_of_owns HJ.out HRow.out (by rw [HJ.out]; have := HLfn.out.2.1; rw [HJ.out] at this; omega)).rd)
      obtain ⟨D, hown, _, _, _, Bk, h4'⟩ := HPo.out
      have H4 := hide h4'
      have HOn := hide hown
      have hjn : j ≤ 12 := by have := HLfn.out.2.1; rw [HJ.out] at this; omega
      have HRt : Hid (∀ t, t < j → R.getD t (0, []) = (L.getD t 0, M (L.getD t 0))) := fun t ht => by rw [← HRR.out]; exact poR_at L M t (by rw [HJ.out]; exact ht)
      have HFin := hide (fun (wr : World) (z : Value) (hb : Below wE.heap.size wE wr) hr => (PoAt.built (z := z) (wr := wr) HJ.out HLfn.out.1 HB.out.size H4.out hb hr).ow (by simp [poR, HJ.out]) (by omega))
      rw [HRR.out] at HFin
      obtain ⟨VK, hVK⟩ : ∃ VK, (fun t => vkOf D (L.getD t 0)) = VK := ⟨_, rfl⟩
      have HVK : Hid (∀ t, VK t = vkOf D (L.getD t 0)) := fun t => by rw [← hVK]
      rw [hVK] at HFin
      clear hown h4' HPo HLs HLf HMs HMl HL0e HL0l HM0e hVK
      have HR0 : Hid (wE.ownsRow wE.heap.size 38 2 (.slice none 0 0) 0 (cellsP R 0 VK)) := World.ownsRow_nil _ _ _ _
      go_wp2
      go_loopw [9, 45] (fun v i wr => ∃ (t : Nat) (a6 : Option Addr) (c6 : Nat), t ≤ j ∧ i = .int .i64 (t : Int) ∧ v = .slice a6 t c6 ∧ Hid (wr.ownsRow wE.heap.size 38 2 (.slice a6 t c6) t (cellsP R t VK)) ∧ Hid (Below wE.heap.size wE wr)) (fun _ i _ => j - (RowKit.intOf i).toNat)
      case atStart => exact ⟨0, none, 0, Nat.zero_le _, rfl, rfl, HR0.out, Below.refl _ _⟩
      case round =>
        clear HR0
        obtain ⟨t, a6, c6, ht, rfl, rfl, HRw, HB1⟩ := hrel
        by_cases hlt2 : t < j
        · obtain ⟨bo, offo, rfl, hx⟩ := (HRo.out).at (k := t) (by rw [HJ.out]; exact hlt2)
          have g0 := cell_later HB1.out hx
          have hmem : L.getD t 0 ∈ L := by
            have h : t < L.length := by rw [HJ.out]; exact hlt2
            simp [List.getD, h]
          obtain ⟨hx1, hx2⟩ := HLfn.out.2.2 _ hmem
          obtain ⟨⟨vv, hat, hr⟩, _⟩ := H4.out _ hmem
          obtain ⟨a3, c3, rfl⟩ := hr.shape
          have HRj := hide (HRt.out t hlt2)
          have HVj : Hid (VK t = .slice a3 (M (L.getD t 0)).length c3) := by rw [Hid, HVK.out]; exact vkOf_eq hat
          obtain ⟨a, haa⟩ : ∃ a, L.getD t 0 = a := ⟨_, rfl⟩
          rw [haa] at g0 hx1 hx2 hat HRj HVj
          obtain ⟨ws, hws⟩ : ∃ ws, M a = ws := ⟨_, rfl⟩
          rw [hws] at hat HRj HVj
          obtain ⟨l, hl⟩ : ∃ l, ws.length = l := ⟨_, rfl⟩
          rw [hl] at hat HVj
          have hkey : Hid (keyOf Tryz.prog 2 (.int .i64 a) = some (.int .i64 a)) := keyOf_int_mk Tryz.underlying2 (WalkArith.wf_i64 (by omega))
          obtain ⟨v', p', hrun, hv'⟩ := (HOn.out.kept (grown_below (row := none) HB1.out) (by simp)).lookup lawI64 Tryz.underlying75 (zeroWords wr) (zd := .held (.slice none 0 0)) (zp := []) rfl hkey.out
          have hvv : v' = .slice a3 l c3 := by
            rw [hat] at hv'
            injection hv' with h1
            injection h1 with h2
            injection h2
          subst hvv
          have hsz := HB1.out.size
          have ht0 : (0 : Int) ≤ (t : Int) := by omega
          have ht1 : (t : Int) < (j : Int) := by omega
          clear hx hmem hr hat hv' haa hws hl
          go_wp2_with (at_builtin; refine wpList_append_lies _ rfl _ _ _ rfl wE.heap.size 38 i1 (.agg #[.int .i64 0, .slice none 0 0]) 2 32 Tryz.underlying30 hj' hy0 hy1 hy2 rfl (by omega) _ t _ (by rfl) (HRw.out.alloc _) ⟨wr.heap.size, 0, none⟩ 1 1 [.int .i64 a, .slice a3 l c3] (by rfl) (by rfl) (World.news_of_block (cs := #[.int .i64 a, .slice a3 l c3]) (t := 38) (fr := (0, 0)) (heap_alloc_new wr _)) cells2_one (by omega) (by unfold maxLen; omega) (by omega) (by simp; omega) (wr.heap.size + 1) (by simp) ?_)
          intro g cap w5 hown5 hgrow5 hat5 hlt5
          have HRn : Hid (w5.ownsRow wE.heap.size 38 2 (.slice (some ⟨g, 0, none⟩) (t + 1) cap) (t + 1) (cellsP R (t + 1) VK)) := by rw [Hid, cellsP_nextJ, HRj.out, HVj.out]; exact hown5
          have HBn := hide ((HB1.out.trans ((below_alloc wr (.cells #[.int .i64 a, .slice a3 l c3] 38)).mono hsz)).grown hgrow5 (by simp; omega) (fun r hr => (HRw.out.lt r hr).1))
          clear hown5 hgrow5 hat5 hlt5 hrun g0
          go_wp2
          go_roundw
          case rel => exact ⟨t + 1, _, _, hlt2, by go_num, rfl, HRn.out, HBn.out⟩
          case measure => simp [RowKit.intOf]; omega
        · have htj : t = j := by omega
          subst htj
          have HOw := hide (HFin.out wr _ HB1.out HRw.out)
          go_wp2
          go_ret
          exact ⟨_, rfl, below_on HB.out HB1.out, HOw.out⟩
end Go.Proofs.YtamknomapabmfaaGreat
