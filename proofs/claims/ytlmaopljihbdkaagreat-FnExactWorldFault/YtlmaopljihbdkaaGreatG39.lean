/- ApplyS in one text: what each says stands at its head below. -/
import Derived.Test.YtlmaopljihbdkaaGreatG38
import Derived.Test.YtlmaopljihbdkaaGreatG34
import Derived.Test.YtlmaopljihbdkaaGreatG15
import Derived.Deep.AppendLies
namespace Go.Proofs.YtlmaopljihbdkaaGreat
open Go.RowKit Go.Maps
def RowP (B : Nat) (w : World) (v : Value) (L : List (Int × List Int)) : Prop :=
  ∃ V, w.ownsRow B 74 2 v L.length (cellsP L L.length V) ∧ ∀ i, i < L.length → RdI (fun b => b < B) w (V i) (L.getD i (0, [])).2
theorem RdI.under {B : Nat} {w w' : World} {v : Value} {xs : List Int} (h : RdI (fun b => b < B) w v xs) (hb : Below B w w') : RdI (fun b => b < B) w' v xs := by
  obtain ⟨ao, c, h1, h2, h3⟩ := h
  refine ⟨ao, c, h1, h2, fun hne => ?_⟩
  obtain ⟨b, off, e, hs, hc⟩ := h3 hne
  exact ⟨b, off, e, hs, fun i hi => (hb.cell (p := ⟨b, off + i, none⟩) hs).trans (hc i hi)⟩
theorem RowP.later {B : Nat} {w w' : World} {v : Value} {L : List (Int × List Int)} (h : RowP B w v L) (hb : Below w.heap.size w w') : RowP B w' v L := by
  obtain ⟨V, h1, h2⟩ := h
  exact ⟨V, ownsRow_later h1 hb, fun i hi => (h2 i hi).later hb⟩
theorem cellsP_snoc (L : List (Int × List Int)) (p : Int × List Int) (V : Nat → Value) (z : Value) : cellsP (L ++ [p]) (L ++ [p]).length (fun i => if i = L.length then z else V i) = cellsP L L.length V ++ [.int .i64 p.1, z] := by
  have e : (L ++ [p]).length = L.length + 1 := by simp
  rw [e, cellsP_succ]
  have h1 : (L ++ [p]).getD L.length (0, []) = p := by simp [List.getD]
  rw [h1]
  congr 1
  unfold cellsP
  refine List.map_congr_left fun t ht => ?_
  have := List.mem_range.1 ht
  have h2 : (L ++ [p]).getD (t / 2) (0, []) = L.getD (t / 2) (0, []) := by simp [List.getD, List.getElem?_append_left (show t / 2 < L.length by omega)]
  rw [h2]
theorem RowP.step {B : Nat} {w w3 : World} {v z : Value} {L : List (Int × List Int)} {p : Int × List Int} {g cap : Nat} {o : Obj} {V : Nat → Value} (h1 : w.ownsRow B 74 2 v L.length (cellsP L L.length V)) (h2 : ∀ i, i < L.length → RdI (fun b => b < B) w (V i) (L.getD i (0, [])).2) (hB : B ≤ w.heap.size)
    (hz : RdI (fun b => b < B) w z p.2) (hown : w3.ownsRow B 74 2 (.slice (some ⟨g, 0, none⟩) (L.length + 1) cap) (L.length + 1) (cellsP L L.length V ++ [.int .i64 p.1, z])) (hg : (w.alloc o).grownBy w3 v.ownBlock) :
    RowP B w3 (.slice (some ⟨g, 0, none⟩) (L.length + 1) cap) (L ++ [p]) ∧ Below B w w3 := by
  have hb : Below B w w3 := ((below_alloc w o).mono hB).grown hg (by simp; omega) (fun r hr => (h1.lt r hr).1)
  refine ⟨⟨fun i => if i = L.length then z else V i, ?_, fun i hi => ?_⟩, hb⟩
  · have e : (L ++ [p]).length = L.length + 1 := by simp
    rw [cellsP_snoc, e]
    exact hown
  · by_cases e : i = L.length
    · subst e
      have h1 : (L ++ [p]).getD L.length (0, []) = p := by simp [List.getD]
      rw [h1]
      simp only [if_true]
      exact hz.under hb
    · have hi' : i < L.length := by simp at hi; omega
      have h3 : (L ++ [p]).getD i (0, []) = L.getD i (0, []) := by simp [List.getD, List.getElem?_append_left hi']
      rw [h3]
      simp only [if_neg e]
      exact (h2 i hi').under hb
theorem RowP.rd {B : Nat} {w : World} {v : Value} {L : List (Int × List Int)} (h : RowP B w v L) (hB : B ≤ w.heap.size) (hm : L.length ≤ 9223372036854775807) : RdP (fun b => b < w.heap.size) w v L := by
  obtain ⟨V, h1, h2⟩ := h
  rcases h1.2 with ⟨rfl, e⟩ | ⟨g, cap, cur, rfl, hg, hh, hnc, _⟩
  · have : L = [] := List.eq_nil_of_length_eq_zero e
    subst this
    exact ⟨none, 0, rfl, hm, fun h => absurd rfl h⟩
  · refine ⟨_, cap, rfl, hm, fun _ => ⟨g, 0, V, rfl, (Array.getElem?_eq_some_iff.1 hh).1, fun i hi => ⟨?_, ?_, (h2 i hi).narrow (fun _ b hb => by omega)⟩⟩⟩
    · rw [Nat.zero_add, h1.cellAt (i * 2) (by omega), cellsP_num _ _ _ _ hi]
    · rw [Nat.zero_add, h1.cellAt (i * 2 + 1) (by omega), cellsP_words _ _ _ _ hi]
theorem RowP.shape {B : Nat} {w : World} {v : Value} {L : List (Int × List Int)} (h : RowP B w v L) : ∃ ao c, v = .slice ao L.length c := by
  obtain ⟨V, h1, h2⟩ := h
  rcases h1.2 with ⟨rfl, e⟩ | ⟨g, cap, cur, rfl, _⟩
  · exact ⟨none, 0, by rw [e]⟩
  · exact ⟨_, _, rfl⟩
def insAll (vs ps : List (Int × List Int)) (k : Nat) : List (Int × List Int) := (ps.take k).foldl (fun L p => insF p L) vs
theorem insAll_succ (vs ps : List (Int × List Int)) (k : Nat) (h : k < ps.length) : insAll vs ps (k + 1) = insF (ps.getD k (0, [])) (insAll vs ps k) := by
  unfold insAll
  exact foldl_take (fun L p => insF p L) (0, []) vs ps k h
theorem insAll_view {vs ps : List (Int × List Int)} (hv : vs = viewTo (vs.foldl putM fun _ => []) 40) (hp : ∀ i, i < ps.length → 0 ≤ (ps.getD i (0, [])).1 ∧ (ps.getD i (0, [])).1 < 40) : ∀ k, k ≤ ps.length → insAll vs ps k = viewTo ((ps.take k).foldl putM (vs.foldl putM fun _ => [])) 40
  | 0, _ => by simpa [insAll] using hv
  | k + 1, h => by
    rw [insAll_succ _ _ _ (by omega), insAll_view hv hp k (by omega), insF_view _ _ (hp k (by omega)).1 (hp k (by omega)).2, foldl_take putM (0, []) _ ps k (by omega)]
set_option maxHeartbeats 8000000 in
set_option maxRecDepth 4000 in
theorem l4ApplyG {S T : Nat → Prop} {w : World} {u v : Value} {vs ps : List (Int × List Int)} (hu : RdP S w u vs) (hv : RdP T w v ps) (hA1 : vs.length ≤ 60 ∧ ∀ i, i < vs.length → 0 ≤ (vs.getD i (0, [])).1 ∧ (vs.getD i (0, [])).1 < 40 ∧ (vs.getD i (0, [])).2.length ≤ 64) (hA2 : ps.length ≤ 60 ∧ ∀ i, i < ps.length → 0 ≤ (ps.getD i (0, [])).1 ∧ (ps.getD i (0, [])).1 < 40 ∧ (ps.getD i (0, [])).2.length ≤ 64) (h3 : isVw vs) :
    Calls Tryz.prog 72 #[u, v] w fun e w' => ∃ z, e = .returned z ∧ Below w.heap.size w w' ∧ OwP (fun b => w.heap.size ≤ b ∧ b < w'.heap.size) w' z (viewTo (apM vs ps) 40) := by
  obtain ⟨i0, hi, hz0, hz1, hz2⟩ := info_parts Tryz.infoPut
  have HLe := hide (fun k hk => insAll_view (vw_eq h3 (fun i hi => ⟨(hA1.2 i hi).1, (hA1.2 i hi).2.1⟩)) (fun i hi => ⟨(hA2.2 i hi).1, (hA2.2 i hi).2.1⟩) k hk)
  have HFin : Hid (insAll vs ps ps.length = viewTo (apM vs ps) 40) := by rw [Hid, HLe.out _ (Nat.le_refl _), List.take_of_length_le (Nat.le_refl _)]; rfl
  have HLen : Hid (∀ k, k ≤ ps.length → (insAll vs ps k).length ≤ 40) := fun k hk => by rw [HLe.out k hk, viewTo, List.length_map]; exact keysTo_len _ _
  have HWl : Hid (∀ i, ((viewTo (apM vs ps) 40).getD i (0, [])).2.length ≤ 64) := fun i => by
    by_cases hi : i < (viewTo (apM vs ps) 40).length
    · have hm : (viewTo (apM vs ps) 40).getD i (0, []) ∈ viewTo (apM vs ps) 40 := by simp [List.getD, hi]
      rw [((view_mem _ _ _).1 hm).2.2.2]
      exact foldl_len (foldl_len (by simp) (fun i hi => (hA1.2 i hi).2.2)) (fun i hi => (hA2.2 i hi).2.2)
    · rw [List.getD, List.getElem?_eq_none (by omega)]; simp
  have HSu := hide (fun k hk => insAll_succ vs ps k hk)
  have H0 : Hid (insAll vs ps 0 = vs) := by simp [Hid, insAll]
  obtain ⟨R, hR⟩ : ∃ R, viewTo (apM vs ps) 40 = R := ⟨_, rfl⟩
  rw [hR] at HFin HWl ⊢
  have hvl : vs.length ≤ 60 := hA1.1
  have hpl : ps.length ≤ 60 := hA2.1
  have HCp := hide (fun (w' : World) (hb : Below w.heap.size w w') => l1Puts (hu.later hb) (by omega) (fun i hi => Nat.le_trans (hA1.2 i hi).2.2 (by omega)))
  have HCf := hide (fun (w' : World) (z : Value) (hz : RdP (fun b => b < w'.heap.size) w' z R) (hl : R.length ≤ 40) => l1Puts hz (by omega) (fun i _ => Nat.le_trans (HWl.out i) (by omega)))
  have HV := hide (RdP_old hv)
  obtain ⟨au, cu, rfl, _⟩ := hu.shape
  obtain ⟨av, cv, rfl, _⟩ := hv.shape
  generalize insAll vs ps = LL at HFin HLen HSu H0
  obtain ⟨m, hm⟩ : ∃ m, ps.length = m := ⟨_, rfl⟩
  have HM := hide hm
  rw [hm] at HFin HLen HSu HV hpl ⊢
  clear hu hv h3 hA1 hA2 HLe hR hm
  go_enter Tryz.func72, Tryz.ntmps72
  go_wp2_with fail
  refine (HCp.out _ (Below.refl _ _)).mono ?_
  rintro e w1 ⟨z1, rfl, hb1, ho1⟩
  have HB1 := hide hb1
  have HO1 : Hid (RdP (fun b => b < w1.heap.size) w1 z1 (LL 0)) := by rw [Hid, H0.out]; exact RdP_old (ho1.ow rfl (by omega)).rd
  clear hb1 ho1 HCp
  go_wp2
  go_loopw [5, 6, 7, 8, 9] (fun v i _ _ _ wr => ∃ (k : Nat) (ao : Option Addr) (c : Nat), k ≤ m ∧ i = .int .i64 (k : Int) ∧ v = .slice ao (LL k).length c ∧ Hid (Below w.heap.size w wr) ∧ Hid (RdP (fun b => b < wr.heap.size) wr (.slice ao (LL k).length c) (LL k))) (fun _ i _ _ _ _ => m - (RowKit.intOf i).toNat)
  case atStart =>
    obtain ⟨ao, c, h, _⟩ := HO1.out.shape
    subst h
    exact ⟨0, ao, c, Nat.zero_le _, rfl, rfl, HB1.out, HO1.out⟩
  case round =>
    obtain ⟨k, ao, c, hk, rfl, rfl, HB, HO⟩ := hrel
    obtain ⟨wo, hwo⟩ : ∃ wo, wo = wr := ⟨_, rfl⟩
    subst hwo
    clear HO1
    by_cases hlt : k < m
    · obtain ⟨b, off, V, rfl, q1, q2, q3⟩ := HV.out.at (k := k) (by rw [HM.out]; exact hlt)
      obtain ⟨a3, c3, rfl⟩ := q3.shape
      have g1 := cell_later HB.out q1
      have g2 := cell_later HB.out q2
      have HWd := hide ((q3.later HB.out).narrow (fun _ b hb => Nat.lt_of_lt_of_le hb HB.out.size))
      have HNx := hide (HSu.out k hlt)
      have hLk := HLen.out k (by omega)
      have hLk1 := HLen.out (k + 1) hlt
      obtain ⟨p, hp⟩ : ∃ p, ps.getD k (0, []) = p := ⟨_, rfl⟩
      rw [hp] at g1 g2 HWd HNx
      obtain ⟨x, ws⟩ := p
      dsimp only at g1 g2 HWd
      obtain ⟨l, hl⟩ : ∃ l, ws.length = l := ⟨_, rfl⟩
      rw [hl] at g2 HWd
      have HL := hide hl
      have hd0 : (decide (ws = [])) = decide (l = 0) := by rw [← hl]; cases ws <;> simp
      have HD0 := hide hd0
      obtain ⟨L, hLL⟩ : ∃ L, LL k = L := ⟨_, rfl⟩
      rw [hLL] at HO HNx hLk ⊢
      have HLL := hide hLL
      obtain ⟨n, hn⟩ : ∃ n, L.length = n := ⟨_, rfl⟩
      rw [hn] at HO hLk ⊢
      have HNl := hide hn
      clear q1 q2 q3 hp hl hd0 hLL hn
      have hwB := HB.out.size
      -- the inner loop
      have HI0 : Hid (RowP wo.heap.size (wo.alloc (.cells #[] 74)) (.slice (some ⟨wo.heap.size, 0, none⟩) 0 0) []) :=
        ⟨fun _ => .bool false, World.ownsRow_made wo #[] 0 (Nat.le_refl _) (by unfold maxLen; omega) (by simp), fun i hi => absurd hi (Nat.not_lt_zero _)⟩
      have bE := hide (below_alloc wo (.cells #[] 74))
      have HP0 : Hid (insP (x, ws) L 0 = []) := rfl
      have HPs : Hid (∀ j, insP (x, ws) L (j + 1) = (insP (x, ws) L j ++ if dnB (x, ws) L j = false ∧ x ≤ (L.getD j (0, [])).1 then [(x, ws)] else []) ++ if (L.getD j (0, [])).1 = x then [] else [L.getD j (0, [])]) := fun j => rfl
      have HDs : Hid (∀ j, dnB (x, ws) L (j + 1) = (dnB (x, ws) L j || decide (x ≤ (L.getD j (0, [])).1))) := fun j => rfl
      have HD1 : Hid (dnB (x, ws) L 0 = decide (l = 0)) := HD0.out
      have HFi : Hid (insF (x, ws) L = insP (x, ws) L n ++ if dnB (x, ws) L n = false then [(x, ws)] else []) := by rw [Hid, ← HNl.out]; rfl
      have HPl : Hid (∀ j, (insP (x, ws) L j).length ≤ 2 * j) := fun j => by
        induction j with
        | zero => exact Nat.zero_le _
        | succ j ih =>
          rw [insP, List.length_append, List.length_append]
          have e1 : (if dnB (x, ws) L j = false ∧ (x, ws).1 ≤ (L.getD j (0, [])).1 then [(x, ws)] else []).length ≤ 1 := by split <;> simp
          have e2 : (if (L.getD j (0, [])).1 = (x, ws).1 then [] else [L.getD j (0, [])]).length ≤ 1 := by split <;> simp
          omega
      generalize insP (x, ws) L = IP at HP0 HPs HFi HPl
      generalize dnB (x, ws) L = DN at HPs HDs HD1 HFi
      generalize insF (x, ws) L = IF at HNx HFi
      have hlb : ((l : Int) == 0) = decide (l = 0) := by
        by_cases e : l = 0
        · subst e; rfl
        · have : ¬ ((l : Int) = 0) := by omega
          simp [e]
      rw [← HD1.out] at hlb
      have g1e := cell_later bE.out g1
      have g2e := cell_later bE.out g2
      go_wp2
      clear g1e g2e
      go_loopw [7, 8, 9] (fun nv d i w2 => ∃ (j : Nat) (an : Option Addr) (cn : Nat), j ≤ n ∧ i = .int .i64 (j : Int) ∧ d = .bool (DN j) ∧ nv = .slice an (IP j).length cn ∧ Hid (Below wo.heap.size wo w2) ∧ Hid (RowP wo.heap.size w2 (.slice an (IP j).length cn) (IP j))) (fun _ _ i _ => n - (RowKit.intOf i).toNat)
      case atStart => exact ⟨0, some ⟨wo.heap.size, 0, none⟩, 0, Nat.zero_le _, rfl, by first | rfl | rw [hlb], by rw [HP0.out]; rfl, bE.out, by rw [HP0.out]; exact HI0.out⟩
      case round =>
        clear HI0 bE
        obtain ⟨j, an, cn, hj, rfl, rfl, rfl, HB2, HR2⟩ := hrel
        have e1 := cell_later HB2.out g1
        have e2 := cell_later HB2.out g2
        have HWd2 := hide (HWd.out.later HB2.out)
        have hIl := HPl.out j
        have hw2B := HB2.out.size
        by_cases hjn : j < n
        · obtain ⟨b4, off4, V4, rfl, r1, r2, r3⟩ := HO.out.at (k := j) (by rw [HNl.out]; exact hjn)
          obtain ⟨a5, c5, rfl⟩ := r3.shape
          have t1 := cell_later HB2.out r1
          have HT1 := hide r1
          have t2 := cell_later HB2.out r2
          have HWq := hide (r3.later HB2.out)
          have HPn := hide (HPs.out j)
          have HDn := hide (HDs.out j)
          obtain ⟨q, hq⟩ : ∃ q, L.getD j (0, []) = q := ⟨_, rfl⟩
          rw [hq] at t1 t2 HWq HPn HDn
          obtain ⟨y, qs⟩ := q
          dsimp only at t1 t2 HWq HPn HDn
          obtain ⟨lq, hlq⟩ : ∃ lq, qs.length = lq := ⟨_, rfl⟩
          rw [hlq] at t2 HWq
          clear r1 r2 r3 hq hlq
          have hj0 : (0 : Int) ≤ (j : Int) := by omega
          have hj1 : (j : Int) < (n : Int) := by omega
          have hk0 : (0 : Int) ≤ (k : Int) := by omega
          have hk1 : (k : Int) < (m : Int) := by omega
          obtain ⟨A, hA⟩ : ∃ A, IP j = A := ⟨_, rfl⟩
          rw [hA] at HR2 hIl HPn ⊢
          obtain ⟨d, hd⟩ : ∃ d, DN j = d := ⟨_, rfl⟩
          rw [hd] at HPn HDn ⊢
          obtain ⟨la, hla⟩ : ∃ la, A.length = la := ⟨_, rfl⟩
          have HLa := hide hla
          rw [hla] at HR2 hIl ⊢
          clear hA hd hla
          have hblt : b < wo.heap.size := World.block_lt_of_cell? _ _ g1
          have hb4lt : b4 < wo.heap.size := World.block_lt_of_cell? _ _ (show wo.cell? ⟨b4, _, none⟩ = some _ from HT1.out)
          cases d with
          | false =>
            by_cases hyx : y < x
            · have hc1 : ¬ x ≤ y := by omega
              have hc2 : ¬ y = x := by omega
              have hc3 : ¬ x = y := by omega
              go_wp2_with fail
              go_quiet (fail)
              have HR_1 := hide (HR2.out.later (below_drewN wr nq))
              have Wp1 := hide (HWd2.out.later (below_drewN wr nq))
              have Wq1 := hide (HWq.out.later (below_drewN wr nq))
              have bq_u1 := hide (below_drewN wr nq)
              have e1a := cell_later (below_drewN wr nq) e1
              have e2a := cell_later (below_drewN wr nq) e2
              have t1a := cell_later (below_drewN wr nq) t1
              have t2a := cell_later (below_drewN wr nq) t2
              obtain ⟨u1, hu1⟩ : ∃ x, wr.drewN nq = x := ⟨_, rfl⟩
              rw [hu1] at HR_1 Wp1 Wq1 bq_u1 e1a e2a t1a t2a ⊢
              clear hu1 nq
              have hs1 := bq_u1.out.size
              have HLa1 := HLa
              go_wp2_with fail
              go_quiet (fail)
              have HR_2 := hide (HR_1.out.later (below_drewN u1 nq))
              have Wq3 := hide (Wq1.out.later (below_drewN u1 nq))
              have bq_u2 := hide (below_drewN u1 nq)
              have e1c := cell_later (below_drewN u1 nq) e1a
              have e2c := cell_later (below_drewN u1 nq) e2a
              have t1c := cell_later (below_drewN u1 nq) t1a
              have t2c := cell_later (below_drewN u1 nq) t2a
              obtain ⟨u2, hu2⟩ : ∃ x, u1.drewN nq = x := ⟨_, rfl⟩
              rw [hu2] at HR_2 Wq3 bq_u2 e1c e2c t1c t2c ⊢
              clear hu2 nq
              have hs2 := bq_u2.out.size
              obtain ⟨V_q, hv1_q, hv2_q⟩ := HR_2.out
              rw [HLa1.out] at hv1_q
              have HO_q := hide hv1_q
              have HI_q := hide hv2_q
              clear hv1_q hv2_q
              go_wp2_with (at_builtin; refine wpList_append_lies _ rfl _ _ _ rfl wo.heap.size 74 i0 (.agg #[.int .i64 0, .slice none 0 0]) 2 32 Tryz.underlying27 hi hz0 hz1 hz2 rfl (by omega) _ la _ (by rfl) (HO_q.out.alloc _) ⟨u2.heap.size, 0, none⟩ 1 1 [.int .i64 y, .slice a5 lq c5] (by rfl) (by rfl) (World.news_of_block (cs := #[.int .i64 y, .slice a5 lq c5]) (t := 74) (fr := (0, 0)) (heap_alloc_new u2 _)) cells2_one (by omega) (by unfold maxLen; omega) (by omega) (by simp; omega) (u2.heap.size + 1) (by simp) ?_)
              intro g_q cap_q w_q hown_q hgrow_q hat_q hlt_q
              have hst_q := RowP.step (L := A) (p := (y, qs)) (by rw [HLa1.out]; exact HO_q.out) HI_q.out (by omega) (Wq3.out.narrow (fun _ b hb => hb)) (by rw [HLa1.out]; exact hown_q) hgrow_q
              rw [HLa1.out] at hst_q
              have HR_q := hide hst_q.1
              have HB_q := hide hst_q.2
              have hz_q := hst_q.2.size
              have HL_q : Hid ((A ++ [(y, qs)]).length = la + 1) := by rw [Hid, List.length_append, HLa1.out]; rfl
              clear hst_q hown_q hgrow_q hat_q hlt_q HO_q HI_q
              have HBf := hide (((HB2.out.trans ((bq_u1.out).mono (by omega))).trans ((bq_u2.out).mono (by omega))).trans ((HB_q.out).mono (by omega)))
              have HIn : Hid (IP (j + 1) = (A ++ [(y, qs)])) := by rw [Hid, HPn.out]; simp [hc1, hc2]
              have HDf : Hid (DN (j + 1) = false) := by rw [Hid, HDn.out]; simp [hc1]
              have HLf : Hid ((IP (j + 1)).length = (la + 1)) := by rw [Hid, HIn.out]; exact HL_q.out
              clear e1 e2 t1 t2
              go_wp2
              go_roundw
              case rel => exact ⟨j + 1, _, _, hjn, by go_num, by rw [HDf.out], by rw [HLf.out], HBf.out, by rw [HLf.out, HIn.out]; exact HR_q.out⟩
              case measure => simp [RowKit.intOf]; omega
            by_cases hye : y = x
            · subst hye
              have hc1 : y ≤ y := Int.le_refl _
              have hc2 : ¬ y < y := by omega
              have hc3 : (0 : Int) ≤ 0 := by omega
              go_wp2_with fail
              go_quiet (fail)
              have HR_1 := hide (HR2.out.later (below_drewN wr nq))
              have Wp1 := hide (HWd2.out.later (below_drewN wr nq))
              have Wq1 := hide (HWq.out.later (below_drewN wr nq))
              have bq_u1 := hide (below_drewN wr nq)
              have e1a := cell_later (below_drewN wr nq) e1
              have e2a := cell_later (below_drewN wr nq) e2
              have t1a := cell_later (below_drewN wr nq) t1
              have t2a := cell_later (below_drewN wr nq) t2
              obtain ⟨u1, hu1⟩ : ∃ x, wr.drewN nq = x := ⟨_, rfl⟩
              rw [hu1] at HR_1 Wp1 Wq1 bq_u1 e1a e2a t1a t2a ⊢
              clear hu1 nq
              have hs1 := bq_u1.out.size
              have HLa1 := HLa
              obtain ⟨V_p, hv1_p, hv2_p⟩ := HR_1.out
              rw [HLa1.out] at hv1_p
              have HO_p := hide hv1_p
              have HI_p := hide hv2_p
              clear hv1_p hv2_p
              go_wp2_with (at_builtin; refine wpList_append_lies _ rfl _ _ _ rfl wo.heap.size 74 i0 (.agg #[.int .i64 0, .slice none 0 0]) 2 32 Tryz.underlying27 hi hz0 hz1 hz2 rfl (by omega) _ la _ (by rfl) (HO_p.out.alloc _) ⟨u1.heap.size, 0, none⟩ 1 1 [.int .i64 y, .slice a3 l c3] (by rfl) (by rfl) (World.news_of_block (cs := #[.int .i64 y, .slice a3 l c3]) (t := 74) (fr := (0, 0)) (heap_alloc_new u1 _)) cells2_one (by omega) (by unfold maxLen; omega) (by omega) (by simp; omega) (u1.heap.size + 1) (by simp) ?_)
              intro g_p cap_p w_p hown_p hgrow_p hat_p hlt_p
              have hst_p := RowP.step (L := A) (p := (y, ws)) (by rw [HLa1.out]; exact HO_p.out) HI_p.out (by omega) (Wp1.out.narrow (fun _ b hb => hb)) (by rw [HLa1.out]; exact hown_p) hgrow_p
              rw [HLa1.out] at hst_p
              have HR_p := hide hst_p.1
              have HB_p := hide hst_p.2
              have hz_p := hst_p.2.size
              have HL_p : Hid ((A ++ [(y, ws)]).length = la + 1) := by rw [Hid, List.length_append, HLa1.out]; rfl
              clear hst_p hown_p hgrow_p hat_p hlt_p HO_p HI_p
              have e1b := (HB_p.out.cell (p := ⟨_, _, none⟩) (show b < wo.heap.size from hblt)).trans e1a
              have e2b := (HB_p.out.cell (p := ⟨_, _, none⟩) (show b < wo.heap.size from hblt)).trans e2a
              have t1b := (HB_p.out.cell (p := ⟨_, _, none⟩) (show b4 < wo.heap.size from hb4lt)).trans t1a
              have t2b := (HB_p.out.cell (p := ⟨_, _, none⟩) (show b4 < wo.heap.size from hb4lt)).trans t2a
              have Wq2 := hide (Wq1.out.under HB_p.out)
              clear e1a e2a t1a t2a
              go_wp2_with fail
              go_quiet (fail)
              have HR_2 := hide (HR_p.out.later (below_drewN w_p nq))
              have Wq3 := hide (Wq2.out.later (below_drewN w_p nq))
              have bq_u2 := hide (below_drewN w_p nq)
              have e1c := cell_later (below_drewN w_p nq) e1b
              have e2c := cell_later (below_drewN w_p nq) e2b
              have t1c := cell_later (below_drewN w_p nq) t1b
              have t2c := cell_later (below_drewN w_p nq) t2b
              obtain ⟨u2, hu2⟩ : ∃ x, w_p.drewN nq = x := ⟨_, rfl⟩
              rw [hu2] at HR_2 Wq3 bq_u2 e1c e2c t1c t2c ⊢
              clear hu2 nq
              have hs2 := bq_u2.out.size
              have HBf := hide (((HB2.out.trans ((bq_u1.out).mono (by omega))).trans ((HB_p.out).mono (by omega))).trans ((bq_u2.out).mono (by omega)))
              have HIn : Hid (IP (j + 1) = (A ++ [(y, ws)])) := by rw [Hid, HPn.out]; simp
              have HDf : Hid (DN (j + 1) = true) := by rw [Hid, HDn.out]; simp
              have HLf : Hid ((IP (j + 1)).length = (la + 1)) := by rw [Hid, HIn.out]; exact HL_p.out
              clear e1 e2 t1 t2
              go_wp2
              go_roundw
              case rel => exact ⟨j + 1, _, _, hjn, by go_num, by rw [HDf.out], by rw [HLf.out], HBf.out, by rw [HLf.out, HIn.out]; exact HR_2.out⟩
              case measure => simp [RowKit.intOf]; omega
            · have hc1 : x ≤ y := by omega
              have hc2 : ¬ y = x := hye
              have hc3 : ¬ y < x := hyx
              go_wp2_with fail
              go_quiet (fail)
              have HR_1 := hide (HR2.out.later (below_drewN wr nq))
              have Wp1 := hide (HWd2.out.later (below_drewN wr nq))
              have Wq1 := hide (HWq.out.later (below_drewN wr nq))
              have bq_u1 := hide (below_drewN wr nq)
              have e1a := cell_later (below_drewN wr nq) e1
              have e2a := cell_later (below_drewN wr nq) e2
              have t1a := cell_later (below_drewN wr nq) t1
              have t2a := cell_later (below_drewN wr nq) t2
              obtain ⟨u1, hu1⟩ : ∃ x, wr.drewN nq = x := ⟨_, rfl⟩
              rw [hu1] at HR_1 Wp1 Wq1 bq_u1 e1a e2a t1a t2a ⊢
              clear hu1 nq
              have hs1 := bq_u1.out.size
              have HLa1 := HLa
              obtain ⟨V_p, hv1_p, hv2_p⟩ := HR_1.out
              rw [HLa1.out] at hv1_p
              have HO_p := hide hv1_p
              have HI_p := hide hv2_p
              clear hv1_p hv2_p
              go_wp2_with (at_builtin; refine wpList_append_lies _ rfl _ _ _ rfl wo.heap.size 74 i0 (.agg #[.int .i64 0, .slice none 0 0]) 2 32 Tryz.underlying27 hi hz0 hz1 hz2 rfl (by omega) _ la _ (by rfl) (HO_p.out.alloc _) ⟨u1.heap.size, 0, none⟩ 1 1 [.int .i64 x, .slice a3 l c3] (by rfl) (by rfl) (World.news_of_block (cs := #[.int .i64 x, .slice a3 l c3]) (t := 74) (fr := (0, 0)) (heap_alloc_new u1 _)) cells2_one (by omega) (by unfold maxLen; omega) (by omega) (by simp; omega) (u1.heap.size + 1) (by simp) ?_)
              intro g_p cap_p w_p hown_p hgrow_p hat_p hlt_p
              have hst_p := RowP.step (L := A) (p := (x, ws)) (by rw [HLa1.out]; exact HO_p.out) HI_p.out (by omega) (Wp1.out.narrow (fun _ b hb => hb)) (by rw [HLa1.out]; exact hown_p) hgrow_p
              rw [HLa1.out] at hst_p
              have HR_p := hide hst_p.1
              have HB_p := hide hst_p.2
              have hz_p := hst_p.2.size
              have HL_p : Hid ((A ++ [(x, ws)]).length = la + 1) := by rw [Hid, List.length_append, HLa1.out]; rfl
              clear hst_p hown_p hgrow_p hat_p hlt_p HO_p HI_p
              have e1b := (HB_p.out.cell (p := ⟨_, _, none⟩) (show b < wo.heap.size from hblt)).trans e1a
              have e2b := (HB_p.out.cell (p := ⟨_, _, none⟩) (show b < wo.heap.size from hblt)).trans e2a
              have t1b := (HB_p.out.cell (p := ⟨_, _, none⟩) (show b4 < wo.heap.size from hb4lt)).trans t1a
              have t2b := (HB_p.out.cell (p := ⟨_, _, none⟩) (show b4 < wo.heap.size from hb4lt)).trans t2a
              have Wq2 := hide (Wq1.out.under HB_p.out)
              clear e1a e2a t1a t2a
              go_wp2_with fail
              go_quiet (fail)
              have HR_2 := hide (HR_p.out.later (below_drewN w_p nq))
              have Wq3 := hide (Wq2.out.later (below_drewN w_p nq))
              have bq_u2 := hide (below_drewN w_p nq)
              have e1c := cell_later (below_drewN w_p nq) e1b
              have e2c := cell_later (below_drewN w_p nq) e2b
              have t1c := cell_later (below_drewN w_p nq) t1b
              have t2c := cell_later (below_drewN w_p nq) t2b
              obtain ⟨u2, hu2⟩ : ∃ x, w_p.drewN nq = x := ⟨_, rfl⟩
              rw [hu2] at HR_2 Wq3 bq_u2 e1c e2c t1c t2c ⊢
              clear hu2 nq
              have hs2 := bq_u2.out.size
              obtain ⟨V_q, hv1_q, hv2_q⟩ := HR_2.out
              rw [HL_p.out] at hv1_q
              have HO_q := hide hv1_q
              have HI_q := hide hv2_q
              clear hv1_q hv2_q
              go_wp2_with (at_builtin; refine wpList_append_lies _ rfl _ _ _ rfl wo.heap.size 74 i0 (.agg #[.int .i64 0, .slice none 0 0]) 2 32 Tryz.underlying27 hi hz0 hz1 hz2 rfl (by omega) _ (la + 1) _ (by rfl) (HO_q.out.alloc _) ⟨u2.heap.size, 0, none⟩ 1 1 [.int .i64 y, .slice a5 lq c5] (by rfl) (by rfl) (World.news_of_block (cs := #[.int .i64 y, .slice a5 lq c5]) (t := 74) (fr := (0, 0)) (heap_alloc_new u2 _)) cells2_one (by omega) (by unfold maxLen; omega) (by omega) (by simp; omega) (u2.heap.size + 1) (by simp) ?_)
              intro g_q cap_q w_q hown_q hgrow_q hat_q hlt_q
              have hst_q := RowP.step (L := (A ++ [(x, ws)])) (p := (y, qs)) (by rw [HL_p.out]; exact HO_q.out) HI_q.out (by omega) (Wq3.out.narrow (fun _ b hb => hb)) (by rw [HL_p.out]; exact hown_q) hgrow_q
              rw [HL_p.out] at hst_q
              have HR_q := hide hst_q.1
              have HB_q := hide hst_q.2
              have hz_q := hst_q.2.size
              have HL_q : Hid (((A ++ [(x, ws)]) ++ [(y, qs)]).length = (la + 1) + 1) := by rw [Hid, List.length_append, HL_p.out]; rfl
              clear hst_q hown_q hgrow_q hat_q hlt_q HO_q HI_q
              have HBf := hide ((((HB2.out.trans ((bq_u1.out).mono (by omega))).trans ((HB_p.out).mono (by omega))).trans ((bq_u2.out).mono (by omega))).trans ((HB_q.out).mono (by omega)))
              have HIn : Hid (IP (j + 1) = ((A ++ [(x, ws)]) ++ [(y, qs)])) := by rw [Hid, HPn.out]; simp [hc1, hc2]
              have HDf : Hid (DN (j + 1) = true) := by rw [Hid, HDn.out]; simp [hc1]
              have HLf : Hid ((IP (j + 1)).length = ((la + 1) + 1)) := by rw [Hid, HIn.out]; exact HL_q.out
              clear e1 e2 t1 t2
              go_wp2
              go_roundw
              case rel => exact ⟨j + 1, _, _, hjn, by go_num, by rw [HDf.out], by rw [HLf.out], HBf.out, by rw [HLf.out, HIn.out]; exact HR_q.out⟩
              case measure => simp [RowKit.intOf]; omega
          | true =>
            by_cases hye : y = x
            · subst hye
              have hc1 : y ≤ y := Int.le_refl _
              have hc2 : ¬ y < y := by omega
              have hc3 : (0 : Int) ≤ 0 := by omega
              go_wp2_with fail
              go_quiet (fail)
              have HR_1 := hide (HR2.out.later (below_drewN wr nq))
              have Wp1 := hide (HWd2.out.later (below_drewN wr nq))
              have Wq1 := hide (HWq.out.later (below_drewN wr nq))
              have bq_u1 := hide (below_drewN wr nq)
              have e1a := cell_later (below_drewN wr nq) e1
              have e2a := cell_later (below_drewN wr nq) e2
              have t1a := cell_later (below_drewN wr nq) t1
              have t2a := cell_later (below_drewN wr nq) t2
              obtain ⟨u1, hu1⟩ : ∃ x, wr.drewN nq = x := ⟨_, rfl⟩
              rw [hu1] at HR_1 Wp1 Wq1 bq_u1 e1a e2a t1a t2a ⊢
              clear hu1 nq
              have hs1 := bq_u1.out.size
              have HLa1 := HLa
              go_wp2_with fail
              go_quiet (fail)
              have HR_2 := hide (HR_1.out.later (below_drewN u1 nq))
              have Wq3 := hide (Wq1.out.later (below_drewN u1 nq))
              have bq_u2 := hide (below_drewN u1 nq)
              have e1c := cell_later (below_drewN u1 nq) e1a
              have e2c := cell_later (below_drewN u1 nq) e2a
              have t1c := cell_later (below_drewN u1 nq) t1a
              have t2c := cell_later (below_drewN u1 nq) t2a
              obtain ⟨u2, hu2⟩ : ∃ x, u1.drewN nq = x := ⟨_, rfl⟩
              rw [hu2] at HR_2 Wq3 bq_u2 e1c e2c t1c t2c ⊢
              clear hu2 nq
              have hs2 := bq_u2.out.size
              have HBf := hide ((HB2.out.trans ((bq_u1.out).mono (by omega))).trans ((bq_u2.out).mono (by omega)))
              have HIn : Hid (IP (j + 1) = A) := by rw [Hid, HPn.out]; simp
              have HDf : Hid (DN (j + 1) = true) := by rw [Hid, HDn.out]; simp
              have HLf : Hid ((IP (j + 1)).length = la) := by rw [Hid, HIn.out]; exact HLa1.out
              clear e1 e2 t1 t2
              go_wp2
              go_roundw
              case rel => exact ⟨j + 1, _, _, hjn, by go_num, by rw [HDf.out], by rw [HLf.out], HBf.out, by rw [HLf.out, HIn.out]; exact HR_2.out⟩
              case measure => simp [RowKit.intOf]; omega
            · have hc1 : ¬ y = x := hye
              have hc2 : ¬ x = y := fun e => hye e.symm
              have hc3 : (0 : Int) ≤ 0 := by omega
              go_wp2_with fail
              go_quiet (fail)
              have HR_1 := hide (HR2.out.later (below_drewN wr nq))
              have Wp1 := hide (HWd2.out.later (below_drewN wr nq))
              have Wq1 := hide (HWq.out.later (below_drewN wr nq))
              have bq_u1 := hide (below_drewN wr nq)
              have e1a := cell_later (below_drewN wr nq) e1
              have e2a := cell_later (below_drewN wr nq) e2
              have t1a := cell_later (below_drewN wr nq) t1
              have t2a := cell_later (below_drewN wr nq) t2
              obtain ⟨u1, hu1⟩ : ∃ x, wr.drewN nq = x := ⟨_, rfl⟩
              rw [hu1] at HR_1 Wp1 Wq1 bq_u1 e1a e2a t1a t2a ⊢
              clear hu1 nq
              have hs1 := bq_u1.out.size
              have HLa1 := HLa
              go_wp2_with fail
              go_quiet (fail)
              have HR_2 := hide (HR_1.out.later (below_drewN u1 nq))
              have Wq3 := hide (Wq1.out.later (below_drewN u1 nq))
              have bq_u2 := hide (below_drewN u1 nq)
              have e1c := cell_later (below_drewN u1 nq) e1a
              have e2c := cell_later (below_drewN u1 nq) e2a
              have t1c := cell_later (below_drewN u1 nq) t1a
              have t2c := cell_later (below_drewN u1 nq) t2a
              obtain ⟨u2, hu2⟩ : ∃ x, u1.drewN nq = x := ⟨_, rfl⟩
              rw [hu2] at HR_2 Wq3 bq_u2 e1c e2c t1c t2c ⊢
              clear hu2 nq
              have hs2 := bq_u2.out.size
              obtain ⟨V_q, hv1_q, hv2_q⟩ := HR_2.out
              rw [HLa1.out] at hv1_q
              have HO_q := hide hv1_q
              have HI_q := hide hv2_q
              clear hv1_q hv2_q
              go_wp2_with (at_builtin; refine wpList_append_lies _ rfl _ _ _ rfl wo.heap.size 74 i0 (.agg #[.int .i64 0, .slice none 0 0]) 2 32 Tryz.underlying27 hi hz0 hz1 hz2 rfl (by omega) _ la _ (by rfl) (HO_q.out.alloc _) ⟨u2.heap.size, 0, none⟩ 1 1 [.int .i64 y, .slice a5 lq c5] (by rfl) (by rfl) (World.news_of_block (cs := #[.int .i64 y, .slice a5 lq c5]) (t := 74) (fr := (0, 0)) (heap_alloc_new u2 _)) cells2_one (by omega) (by unfold maxLen; omega) (by omega) (by simp; omega) (u2.heap.size + 1) (by simp) ?_)
              intro g_q cap_q w_q hown_q hgrow_q hat_q hlt_q
              have hst_q := RowP.step (L := A) (p := (y, qs)) (by rw [HLa1.out]; exact HO_q.out) HI_q.out (by omega) (Wq3.out.narrow (fun _ b hb => hb)) (by rw [HLa1.out]; exact hown_q) hgrow_q
              rw [HLa1.out] at hst_q
              have HR_q := hide hst_q.1
              have HB_q := hide hst_q.2
              have hz_q := hst_q.2.size
              have HL_q : Hid ((A ++ [(y, qs)]).length = la + 1) := by rw [Hid, List.length_append, HLa1.out]; rfl
              clear hst_q hown_q hgrow_q hat_q hlt_q HO_q HI_q
              have HBf := hide (((HB2.out.trans ((bq_u1.out).mono (by omega))).trans ((bq_u2.out).mono (by omega))).trans ((HB_q.out).mono (by omega)))
              have HIn : Hid (IP (j + 1) = (A ++ [(y, qs)])) := by rw [Hid, HPn.out]; simp [hc1]
              have HDf : Hid (DN (j + 1) = true) := by rw [Hid, HDn.out]; simp
              have HLf : Hid ((IP (j + 1)).length = (la + 1)) := by rw [Hid, HIn.out]; exact HL_q.out
              clear e1 e2 t1 t2
              go_wp2
              go_roundw
              case rel => exact ⟨j + 1, _, _, hjn, by go_num, by rw [HDf.out], by rw [HLf.out], HBf.out, by rw [HLf.out, HIn.out]; exact HR_q.out⟩
              case measure => simp [RowKit.intOf]; omega
        · have hjn' : j = n := by omega
          subst hjn'
          obtain ⟨A, hA⟩ : ∃ A, IP j = A := ⟨_, rfl⟩
          rw [hA] at HR2 hIl HFi ⊢
          obtain ⟨d, hd⟩ : ∃ d, DN j = d := ⟨_, rfl⟩
          rw [hd] at HFi ⊢
          obtain ⟨la, hla⟩ : ∃ la, A.length = la := ⟨_, rfl⟩
          have HLa := hide hla
          rw [hla] at HR2 hIl ⊢
          clear hA hd hla
          cases d with
          | true =>
            have HIe : Hid (LL (k + 1) = A) := by rw [Hid, HNx.out, HFi.out]; simp
            have HLe : Hid ((LL (k + 1)).length = la) := by rw [Hid, HIe.out]; exact HLa.out
            have HBf := hide (below_on HB.out HB2.out)
            have HRf := hide (HR2.out.rd hw2B (by rw [HLa.out]; omega))
            clear e1 e2
            go_wp2
            go_roundw
            case rel => exact ⟨k + 1, _, _, hlt, by go_num, by rw [HLe.out], HBf.out, by rw [HLe.out, HIe.out]; exact HRf.out⟩
            case measure => simp [RowKit.intOf]; omega
          | false =>
            have HIe : Hid (LL (k + 1) = A ++ [(x, ws)]) := by rw [Hid, HNx.out, HFi.out]; simp
            obtain ⟨V_f, hv1_f, hv2_f⟩ := HR2.out
            rw [HLa.out] at hv1_f
            have HO_f := hide hv1_f
            have HI_f := hide hv2_f
            clear hv1_f hv2_f
            go_wp2_with (at_builtin; refine wpList_append_lies _ rfl _ _ _ rfl wo.heap.size 74 i0 (.agg #[.int .i64 0, .slice none 0 0]) 2 32 Tryz.underlying27 hi hz0 hz1 hz2 rfl (by omega) _ la _ (by rfl) (HO_f.out.alloc _) ⟨wr.heap.size, 0, none⟩ 1 1 [.int .i64 x, .slice a3 l c3] (by rfl) (by rfl) (World.news_of_block (cs := #[.int .i64 x, .slice a3 l c3]) (t := 74) (fr := (0, 0)) (heap_alloc_new wr _)) cells2_one (by omega) (by unfold maxLen; omega) (by omega) (by simp; omega) (wr.heap.size + 1) (by simp) ?_)
            intro g_f cap_f w_f hown_f hgrow_f hat_f hlt_f
            have hst_f := RowP.step (L := A) (p := (x, ws)) (by rw [HLa.out]; exact HO_f.out) HI_f.out (by omega) (HWd2.out.narrow (fun _ b hb => hb)) (by rw [HLa.out]; exact hown_f) hgrow_f
            rw [HLa.out] at hst_f
            have HR_f := hide hst_f.1
            have HB_f := hide hst_f.2
            have hz_f := hst_f.2.size
            have HL_f : Hid ((A ++ [(x, ws)]).length = la + 1) := by rw [Hid, List.length_append, HLa.out]; rfl
            clear hst_f hown_f hgrow_f hat_f hlt_f HO_f HI_f
            have HLe : Hid ((LL (k + 1)).length = la + 1) := by rw [Hid, HIe.out]; exact HL_f.out
            have HBf := hide (below_on HB.out (HB2.out.trans HB_f.out))
            have HRf := hide (HR_f.out.rd (by omega) (by rw [HL_f.out]; omega))
            clear e1 e2
            go_wp2
            go_roundw
            case rel => exact ⟨k + 1, _, _, hlt, by go_num, by rw [HLe.out], HBf.out, by rw [HLe.out, HIe.out]; exact HRf.out⟩
            case measure => simp [RowKit.intOf]; omega
    · have hkm : k = m := by omega
      subst hkm
      rw [HFin.out] at HO
      have hl40 := HLen.out k (Nat.le_refl _)
      rw [HFin.out] at hl40 ⊢
      go_wp2_with fail
      refine (HCf.out _ _ HO.out hl40).mono ?_
      rintro e w3 ⟨z3, rfl, hb3, ho3⟩
      have HB3 := hide (below_on HB.out hb3)
      have HO3 := hide ((ho3.ow rfl (by omega)).mono (T := fun b => w.heap.size ≤ b ∧ b < w3.heap.size) (fun b hb => ⟨by have := HB.out.size; omega, hb.2⟩))
      clear hb3 ho3
      go_wp2
      go_ret
      exact ⟨_, rfl, HB3.out, HO3.out⟩
theorem l4Apply {S T : Nat → Prop} {w : World} {u v : Value} {vs ps : List (Int × List Int)} (hu : RdP S w u vs) (hv : RdP T w v ps) (h1 : hpF 60 vs = 0) (h2 : hpF 60 ps = 0) (h3 : isVw vs) :
    Calls Tryz.prog 72 #[u, v] w fun e w' => ∃ z, e = .returned z ∧ Below w.heap.size w w' ∧ OwP (fun b => w.heap.size ≤ b ∧ b < w'.heap.size) w' z (viewTo (apM vs ps) 40) :=
  l4ApplyG hu hv (hpF_all h1) (hpF_all h2) h3
end Go.Proofs.YtlmaopljihbdkaaGreat
