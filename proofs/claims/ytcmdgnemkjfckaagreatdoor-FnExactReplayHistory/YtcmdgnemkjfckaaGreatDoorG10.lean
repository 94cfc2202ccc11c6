/- Ops1 Th1 in one text: what each says stands at its head below. -/
import Derived.Test.YtcmdgnemkjfckaaGreatDoorG08
import Derived.Test.YtcmdgnemkjfckaaGreatDoorG09
import Derived.BigQuiet
/- Chapter 12: lists of operations among the arguments: readings of them, their size, compared. Made by program (genops.py). -/
namespace Go.Proofs.YtcmdgnemkjfckaaGreatDoor
open Go.RowKit

/-- An operation in six cells from o on of block b; its words, its entries. -/
structure RdOp (w : World) (b o : Nat) (y z : Value) (r : Rf) : Prop where
  c0 : w.cell? ⟨b, o, none⟩ = some (.int .i64 r.tm)
  c1 : w.cell? ⟨b, o + 1, none⟩ = some (.int .i64 r.vt)
  c2 : w.cell? ⟨b, o + 2, none⟩ = some (.int .i64 r.si)
  c3 : w.cell? ⟨b, o + 3, none⟩ = some (.int .i64 r.st)
  c4 : w.cell? ⟨b, o + 4, none⟩ = some y
  c5 : w.cell? ⟨b, o + 5, none⟩ = some z
  rI : RdI (fun _ => True) w y r.sn
  rJ : RdJ (fun _ => True) w z r.lg
theorem RdOp.later {w w' : World} {b o : Nat} {y z : Value} {r : Rf} (h : RdOp w b o y z r) (hb : Below w.heap.size w w') : RdOp w' b o y z r :=
  ⟨cell_later hb h.c0, cell_later hb h.c1, cell_later hb h.c2, cell_later hb h.c3, cell_later hb h.c4, cell_later hb h.c5, h.rI.later hb, h.rJ.later hb⟩
/-- The slice value v reads as the operations. -/
def RdOps (w : World) (v : Value) (os : List Rf) : Prop :=
  ∃ (ao : Option Addr) (c : Nat), v = .slice ao os.length c ∧ os.length ≤ 9223372036854775807 ∧ (os ≠ [] → ∃ (b off : Nat) (Y Z : Nat → Value), ao = some ⟨b, off, none⟩ ∧ ∀ i, i < os.length → RdOp w b (off + i * 6) (Y i) (Z i) (os.getD i rf0))
theorem RdOps.shape {w : World} {v : Value} {os : List Rf} (h : RdOps w v os) : ∃ ao c, v = .slice ao os.length c ∧ os.length ≤ 9223372036854775807 := by
  obtain ⟨ao, c, h1, h2, _⟩ := h
  exact ⟨ao, c, h1, h2⟩
theorem RdOps.later {w w' : World} {v : Value} {os : List Rf} (h : RdOps w v os) (hb : Below w.heap.size w w') : RdOps w' v os := by
  obtain ⟨ao, c, h1, h2, h3⟩ := h
  refine ⟨ao, c, h1, h2, fun hne => ?_⟩
  obtain ⟨b, off, Y, Z, e, hc⟩ := h3 hne
  exact ⟨b, off, Y, Z, e, fun i hi => (hc i hi).later hb⟩
theorem RdOps.at {w : World} {ao : Option Addr} {n c : Nat} {os : List Rf} (h : RdOps w (.slice ao n c) os) {k : Nat} (hk : k < os.length) : ∃ b off y z, ao = some ⟨b, off, none⟩ ∧ RdOp w b (off + k * 6) y z (os.getD k rf0) := by
  obtain ⟨ao', c', e, hm, h⟩ := h
  injection e with e1 e2 e3
  obtain ⟨b, off, Y, Z, e4, hc⟩ := h (by rintro rfl; exact absurd hk (Nat.not_lt_zero _))
  exact ⟨b, off, Y k, Z k, e1.trans e4, hc k hk⟩
def szOq (os : List Rf) (i : Nat) : Int := ((os.take i).map szR).sum
theorem szR_nonneg (r : Rf) : 0 ≤ szR r := by have := szU_nonneg r.lg; unfold szR; omega
theorem szOq_zero (os : List Rf) : szOq os 0 = 0 := by simp [szOq]
theorem szOq_succ (os : List Rf) (i : Nat) (h : i < os.length) : szOq os (i + 1) = szOq os i + szR (os.getD i rf0) := by
  have e : os.getD i rf0 = os[i] := by simp [List.getD, h]
  unfold szOq
  rw [e, List.take_succ_eq_append_getElem h, List.map_append, List.sum_append]
  simp
theorem szOq_le (os : List Rf) : ∀ (d i : Nat), szOq os i ≤ szOq os (i + d)
  | 0, i => Int.le_refl _
  | d + 1, i => by
    refine Int.le_trans (szOq_le os d i) ?_
    by_cases h : i + d < os.length
    · rw [show i + (d + 1) = (i + d) + 1 by omega, szOq_succ os (i + d) h]
      have := szR_nonneg (os.getD (i + d) rf0)
      omega
    · unfold szOq
      rw [List.take_of_length_le (by omega), List.take_of_length_le (by omega)]
      exact Int.le_refl _
/-- How much a list of operations holds. -/
def szOw (os : List Rf) : Int := (os.length : Int) + szOq os os.length
theorem szOw_nonneg (os : List Rf) : 0 ≤ szOw os := by
  have := szOq_le os os.length 0
  rw [szOq_zero, Nat.zero_add] at this
  unfold szOw
  omega
theorem szOw_each {os : List Rf} (h : szOw os ≤ 1048576) : os.length ≤ 1048576 ∧ ∀ i, i < os.length → szR (os.getD i rf0) ≤ 1048576 := by
  have h0 := szOq_le os os.length 0
  rw [szOq_zero, Nat.zero_add] at h0
  unfold szOw at h
  refine ⟨by omega, fun i hi => ?_⟩
  have h1 := szOq_succ os i hi
  have h2 := szOq_le os (os.length - (i + 1)) (i + 1)
  rw [show i + 1 + (os.length - (i + 1)) = os.length by omega] at h2
  have h3 := szOq_le os i 0
  rw [szOq_zero, Nat.zero_add] at h3
  omega

set_option maxHeartbeats 4000000 in
set_option maxRecDepth 4000 in
theorem szOps {w : World} {v : Value} {os : List Rf} {left : Int} (hv : RdOps w v os) (h0 : 0 ≤ left) (h1 : left ≤ 1048576) :
    Calls Tryz.prog 45 #[v, .int .i64 left] w fun e w' => e = .returned (.int .i64 (szv left (szOw os))) ∧ Below w.heap.size w w' := by
  obtain ⟨ao, c, rfl, hm⟩ := hv.shape
  have HV := hide hv
  have HS : Hid (szOw os = (os.length : Int) + szOq os os.length) := rfl
  have HSu := hide (szOq_succ os)
  have HLe := hide (szOq_le os)
  have HZo := hide (szOq_zero os)
  obtain ⟨P, hP⟩ : ∃ P, szOw os = P := ⟨_, rfl⟩
  rw [hP] at HS
  rw [hP]
  obtain ⟨n, hn⟩ : ∃ n, os.length = n := ⟨_, rfl⟩
  have HN := hide hn
  rw [hn] at HV HS hm HSu ⊢
  clear hv hP hn
  have hps : 0 ≤ szOq os n := by have h := HLe.out n 0; rw [HZo.out, Nat.zero_add] at h; exact h
  by_cases h : (n : Int) ≤ left
  · go_enter Tryz.func45, Tryz.ntmps45
    go_wp2
    go_loopw [1, 5] (fun t i wr => ∃ j : Nat, j ≤ n ∧ (n : Int) + szOq os j ≤ left ∧ t = .int .i64 (left - ((n : Int) + szOq os j)) ∧ i = .int .i64 j ∧ Hid (Below w.heap.size w wr)) (fun _ i _ => n - (intOf i).toNat)
    case atStart => exact ⟨0, Nat.zero_le _, by rw [HZo.out]; omega, by rw [HZo.out]; simp, rfl, Below.refl _ _⟩
    case round =>
      obtain ⟨j, hj, hs, rfl, rfl, HB⟩ := hrel
      have hsj : 0 ≤ szOq os j := by have h := HLe.out j 0; rw [HZo.out, Nat.zero_add] at h; exact h
      by_cases hlt : j < n
      · obtain ⟨b, off, y, z, rfl, hr⟩ := HV.out.at (k := j) (by rw [HN.out]; exact hlt)
        have ht := HSu.out j hlt
        have hrn := szR_nonneg (os.getD j rf0)
        have hle := HLe.out (n - (j + 1)) (j + 1)
        rw [show j + 1 + (n - (j + 1)) = n by omega] at hle
        obtain ⟨x, hx⟩ : ∃ x, os.getD j rf0 = x := ⟨_, rfl⟩
        rw [hx] at hr ht hrn
        clear hx
        obtain ⟨g0, g1, g2, g3, g4, g5, gI, gJ⟩ := hr.later HB.out
        obtain ⟨ay, cy, rfl⟩ := gI.shape
        obtain ⟨az, cz, rfl, _⟩ := gJ.shape
        obtain ⟨s, hse⟩ : ∃ s, szR x = s := ⟨_, rfl⟩
        rw [hse] at ht hrn
        obtain ⟨p, q, e, d, us, vs⟩ := x
        dsimp only at g0 g1 g2 g3 g4 g5 gI gJ
        obtain ⟨S1, hS1⟩ : ∃ s, szOq os (j + 1) = s := ⟨_, rfl⟩
        rw [hS1] at ht hle
        have HS1 := hide hS1
        have hj0 : (0 : Int) ≤ (j : Int) := by omega
        have hj1 : (j : Int) < (n : Int) := by omega
        have hbl := World.block_lt_of_cell? _ _ g0
        have HC := hide (szOp (left := left - ((n : Int) + szOq os j)) p q e d gI gJ (by omega) (by omega))
        have hse2 : (us.length : Int) + szU vs = s := hse
        rw [hse2] at HC
        generalize us.length = l at g4 HC
        generalize vs.length = m at g5 HC
        obtain ⟨S0, hS0⟩ : ∃ x, szOq os j = x := ⟨_, rfl⟩
        rw [hS0] at HC ht hs hsj ⊢
        clear gI gJ hr hse hse2 hS1 hS0
        by_cases hy : (n : Int) + S1 ≤ left
        · have HY := hide (szv_yes (left := left - ((n : Int) + S0)) (s := s) (by omega))
          have hp : ¬ left - ((n : Int) + S0) - s < 0 := by omega
          go_wp2_with fail
          refine HC.out.mono ?_
          rintro e w' ⟨he, hb⟩
          rw [HY.out] at he
          subst he
          have HB2 := hide (below_on HB.out hb)
          clear hb g0 g1 g2 g3 g4 g5
          go_wp2
          go_roundw
          case rel => exact ⟨j + 1, hlt, by rw [HS1.out]; exact hy, by rw [HS1.out, ht]; go_num, by go_num, HB2.out⟩
          case measure => simp [intOf]; omega
        · have HY := hide (szv_no (left := left - ((n : Int) + S0)) (s := s) (by omega))
          have HZ := hide (szv_no (left := left) (s := P) (by rw [HS.out]; omega))
          go_wp2_with fail
          refine HC.out.mono ?_
          rintro e w' ⟨he, hb⟩
          rw [HY.out] at he
          subst he
          have HB2 := hide (below_on HB.out hb)
          clear hb
          go_wp2
          go_ret
          exact ⟨ret_int HZ.out.symm, HB2.out⟩
      · have hjn : j = n := by omega
        subst hjn
        have HZ := hide (szv_yes (left := left) (s := P) (by rw [HS.out]; exact hs))
        rw [HS.out] at HZ
        go_wp2
        go_ret
        exact ⟨ret_int (by rw [HS.out]; exact HZ.out.symm), HB.out⟩
  · have HZ := hide (szv_no (left := left) (s := P) (by rw [HS.out]; omega))
    go_enter Tryz.func45, Tryz.ntmps45
    go_wp2
    go_ret
    exact ⟨ret_int HZ.out.symm, Below.refl _ _⟩

set_option maxHeartbeats 4000000 in
set_option maxRecDepth 4000 in
theorem eqOps {w : World} {u v : Value} {os : List Rf} (hu : RdOps w u os) (hv : RdOps w v os) :
    Calls Tryz.prog 65 #[u, v] w fun e w' => e = .returned (.bool true) ∧ Below w.heap.size w w' := by
  obtain ⟨ao, c, rfl, hm⟩ := hu.shape
  obtain ⟨ao', c', rfl, _⟩ := hv.shape
  have HU := hide hu
  have HV := hide hv
  obtain ⟨n, hn⟩ : ∃ n, os.length = n := ⟨_, rfl⟩
  have HN := hide hn
  rw [hn] at HU HV hm ⊢
  clear hu hv hn
  go_enter Tryz.func65, Tryz.ntmps65
  go_wp2
  go_loopw [5] (fun i wr => ∃ j : Nat, j ≤ n ∧ i = .int .i64 j ∧ Hid (Below w.heap.size w wr)) (fun i _ => n - (intOf i).toNat)
  case atStart => exact ⟨0, Nat.zero_le _, rfl, Below.refl _ _⟩
  case round =>
    obtain ⟨j, hj, rfl, HB⟩ := hrel
    by_cases hlt : j < n
    · obtain ⟨b, off, y, z, rfl, hr⟩ := HU.out.at (k := j) (by rw [HN.out]; exact hlt)
      obtain ⟨b', off', y', z', rfl, hr'⟩ := HV.out.at (k := j) (by rw [HN.out]; exact hlt)
      obtain ⟨x, hx⟩ : ∃ x, os.getD j rf0 = x := ⟨_, rfl⟩
      rw [hx] at hr hr'
      clear hx
      obtain ⟨g0, g1, g2, g3, g4, g5, gI, gJ⟩ := hr.later HB.out
      obtain ⟨k0, k1, k2, k3, k4, k5, kI, kJ⟩ := hr'.later HB.out
      obtain ⟨ay, cy, rfl⟩ := gI.shape
      obtain ⟨az, cz, rfl, _⟩ := gJ.shape
      obtain ⟨ay', cy', rfl⟩ := kI.shape
      obtain ⟨az', cz', rfl, _⟩ := kJ.shape
      obtain ⟨p, q, e, d, us, vs⟩ := x
      dsimp only at g0 g1 g2 g3 g4 g5 gI gJ k0 k1 k2 k3 k4 k5 kI kJ
      have HE := hide (fun (w' : World) (hb : Below wr.heap.size wr w') => eqOp p q e d (gI.later hb) (gJ.later hb) (kI.later hb) (kJ.later hb))
      generalize us.length = l at g4 k4 HE
      generalize vs.length = m at g5 k5 HE
      have hj0 : (0 : Int) ≤ (j : Int) := by omega
      have hj1 : (j : Int) < (n : Int) := by omega
      have hbl := World.block_lt_of_cell? _ _ g0
      have hbl' := World.block_lt_of_cell? _ _ k0
      clear gI gJ kI kJ hr hr'
      (try go_wp2_with fail)
      go_region_held3 (fun w' => w'.cell? ⟨b, off + j * 6, none⟩ = some (.int .i64 p) ∧ w'.cell? ⟨b, off + j * 6 + 1, none⟩ = some (.int .i64 q) ∧ w'.cell? ⟨b, off + j * 6 + 2, none⟩ = some (.int .i64 e) ∧ w'.cell? ⟨b, off + j * 6 + 3, none⟩ = some (.int .i64 d) ∧ w'.cell? ⟨b, off + j * 6 + 4, none⟩ = some (.slice ay l cy) ∧ w'.cell? ⟨b, off + j * 6 + 5, none⟩ = some (.slice az m cz) ∧ w'.cell? ⟨b', off' + j * 6, none⟩ = some (.int .i64 p) ∧ w'.cell? ⟨b', off' + j * 6 + 1, none⟩ = some (.int .i64 q) ∧ w'.cell? ⟨b', off' + j * 6 + 2, none⟩ = some (.int .i64 e) ∧ w'.cell? ⟨b', off' + j * 6 + 3, none⟩ = some (.int .i64 d) ∧ w'.cell? ⟨b', off' + j * 6 + 4, none⟩ = some ((.slice ay' l cy')) ∧ w'.cell? ⟨b', off' + j * 6 + 5, none⟩ = some ((.slice az' m cz'))) (first | exact ⟨g0, g1, g2, g3, g4, g5, k0, k1, k2, k3, k4, k5⟩ | exact ⟨u0, u1, u2, u3, u4, u5, u6, u7, u8, u9, u10, u11⟩)
        ((go_at_call 93; refine (HE.out _ (below_drewN wr 1)).mono ?_; rintro e w7 ⟨rfl, hb7⟩; have u0 := cell_later hb7 g0; have u1 := cell_later hb7 g1; have u2 := cell_later hb7 g2; have u3 := cell_later hb7 g3; have u4 := cell_later hb7 g4; have u5 := cell_later hb7 g5; have u6 := cell_later hb7 k0; have u7 := cell_later hb7 k1; have u8 := cell_later hb7 k2; have u9 := cell_later hb7 k3; have u10 := cell_later hb7 k4; have u11 := cell_later hb7 k5; have HB7 := hide (below_on HB.out (below_on (below_drewN wr 1) hb7)); clear hb7))
      go_wp2
      go_roundw
      case rel => exact ⟨j + 1, hlt, by go_num, HB7.out⟩
      case measure => simp [intOf]; omega
    · have hjn : j = n := by omega
      subst hjn
      go_wp2
      go_ret
      exact ⟨rfl, HB.out⟩
end Go.Proofs.YtcmdgnemkjfckaaGreatDoor
/- Chapter 14: lists of threads among the arguments: readings of them, their size, compared. Made by program (genth.py). -/
namespace Go.Proofs.YtcmdgnemkjfckaaGreatDoor
open Go.RowKit

/-- A thread: its operations, how many are at their end, how many locks it has. -/
structure Tq where
  os : List Rf
  pc : Int
  nd : Int
def tq0 : Tq := ⟨[], 0, 0⟩
/-- A thread in three cells from o on of block b; its operations. -/
structure RdTh (w : World) (b o : Nat) (y : Value) (t : Tq) : Prop where
  c0 : w.cell? ⟨b, o, none⟩ = some y
  c1 : w.cell? ⟨b, o + 1, none⟩ = some (.int .i64 t.pc)
  c2 : w.cell? ⟨b, o + 2, none⟩ = some (.int .i64 t.nd)
  rO : RdOps w y t.os
theorem RdTh.later {w w' : World} {b o : Nat} {y : Value} {t : Tq} (h : RdTh w b o y t) (hb : Below w.heap.size w w') : RdTh w' b o y t :=
  ⟨cell_later hb h.c0, cell_later hb h.c1, cell_later hb h.c2, h.rO.later hb⟩
/-- The slice value v reads as the threads. -/
def RdThs (w : World) (v : Value) (ts : List Tq) : Prop :=
  ∃ (ao : Option Addr) (c : Nat), v = .slice ao ts.length c ∧ ts.length ≤ 9223372036854775807 ∧ (ts ≠ [] → ∃ (b off : Nat) (Y : Nat → Value), ao = some ⟨b, off, none⟩ ∧ ∀ i, i < ts.length → RdTh w b (off + i * 3) (Y i) (ts.getD i tq0))
theorem RdThs.shape {w : World} {v : Value} {ts : List Tq} (h : RdThs w v ts) : ∃ ao c, v = .slice ao ts.length c ∧ ts.length ≤ 9223372036854775807 := by
  obtain ⟨ao, c, h1, h2, _⟩ := h
  exact ⟨ao, c, h1, h2⟩
theorem RdThs.later {w w' : World} {v : Value} {ts : List Tq} (h : RdThs w v ts) (hb : Below w.heap.size w w') : RdThs w' v ts := by
  obtain ⟨ao, c, h1, h2, h3⟩ := h
  refine ⟨ao, c, h1, h2, fun hne => ?_⟩
  obtain ⟨b, off, Y, e, hc⟩ := h3 hne
  exact ⟨b, off, Y, e, fun i hi => (hc i hi).later hb⟩
theorem RdThs.at {w : World} {ao : Option Addr} {n c : Nat} {ts : List Tq} (h : RdThs w (.slice ao n c) ts) {k : Nat} (hk : k < ts.length) : ∃ b off y, ao = some ⟨b, off, none⟩ ∧ RdTh w b (off + k * 3) y (ts.getD k tq0) := by
  obtain ⟨ao', c', e, hm, h⟩ := h
  injection e with e1 e2 e3
  obtain ⟨b, off, Y, e4, hc⟩ := h (by rintro rfl; exact absurd hk (Nat.not_lt_zero _))
  exact ⟨b, off, Y k, e1.trans e4, hc k hk⟩
def szTq (ts : List Tq) (i : Nat) : Int := ((ts.take i).map fun t => szOw t.os).sum
theorem szTq_zero (ts : List Tq) : szTq ts 0 = 0 := by simp [szTq]
theorem szTq_succ (ts : List Tq) (i : Nat) (h : i < ts.length) : szTq ts (i + 1) = szTq ts i + szOw (ts.getD i tq0).os := by
  have e : ts.getD i tq0 = ts[i] := by simp [List.getD, h]
  unfold szTq
  rw [e, List.take_succ_eq_append_getElem h, List.map_append, List.sum_append]
  simp
theorem szTq_le (ts : List Tq) : ∀ (d i : Nat), szTq ts i ≤ szTq ts (i + d)
  | 0, i => Int.le_refl _
  | d + 1, i => by
    refine Int.le_trans (szTq_le ts d i) ?_
    by_cases h : i + d < ts.length
    · rw [show i + (d + 1) = (i + d) + 1 by omega, szTq_succ ts (i + d) h]
      have := szOw_nonneg (ts.getD (i + d) tq0).os
      omega
    · unfold szTq
      rw [List.take_of_length_le (by omega), List.take_of_length_le (by omega)]
      exact Int.le_refl _
/-- How much a list of threads holds. -/
def szTw (ts : List Tq) : Int := (ts.length : Int) + szTq ts ts.length
theorem szTw_nonneg (ts : List Tq) : 0 ≤ szTw ts := by
  have := szTq_le ts ts.length 0
  rw [szTq_zero, Nat.zero_add] at this
  unfold szTw
  omega
theorem szTw_each {ts : List Tq} (h : szTw ts ≤ 1048576) : ts.length ≤ 1048576 ∧ ∀ i, i < ts.length → szOw (ts.getD i tq0).os ≤ 1048576 := by
  have h0 := szTq_le ts ts.length 0
  rw [szTq_zero, Nat.zero_add] at h0
  unfold szTw at h
  refine ⟨by omega, fun i hi => ?_⟩
  have h1 := szTq_succ ts i hi
  have h2 := szTq_le ts (ts.length - (i + 1)) (i + 1)
  rw [show i + 1 + (ts.length - (i + 1)) = ts.length by omega] at h2
  have h3 := szTq_le ts i 0
  rw [szTq_zero, Nat.zero_add] at h3
  omega

theorem szTh {w : World} {v : Value} {os : List Rf} {left : Int} (pc nd : Int) (hv : RdOps w v os) (h0 : 0 ≤ left) (h1 : left ≤ 1048576) :
    Calls Tryz.prog 23 #[.agg #[v, .int .i64 pc, .int .i64 nd], .int .i64 left] w fun e w' => e = .returned (.int .i64 (szv left (szOw os))) ∧ Below w.heap.size w w' := by
  obtain ⟨ao, c, rfl, _⟩ := hv.shape
  have hn := szOw_nonneg os
  generalize os.length = n at hv ⊢
  have BA := hide (below_alloc w (.cells #[.slice ao n c, .int .i64 pc, .int .i64 nd] 56))
  have HC := hide (szOps (left := left) (hv.later BA.out) h0 h1)
  generalize szOw os = s at HC hn ⊢
  clear hv
  by_cases h : s ≤ left
  · have HY := hide (szv_yes h)
    have hp : ¬ left - s < 0 := by omega
    go_enter Tryz.func23, Tryz.ntmps23
    go_wp2_with fail
    refine HC.out.mono ?_
    rintro e w1 ⟨he, hb⟩
    rw [HY.out] at he
    subst he
    have B1 := hide (below_on BA.out hb)
    clear hb
    go_wp2
    go_ret
    exact ⟨ret_int HY.out.symm, B1.out⟩
  · have HY := hide (szv_no (left := left) (s := s) (by omega))
    clear h
    go_enter Tryz.func23, Tryz.ntmps23
    go_wp2_with fail
    refine HC.out.mono ?_
    rintro e w1 ⟨he, hb⟩
    rw [HY.out] at he
    subst he
    have B1 := hide (below_on BA.out hb)
    clear hb
    go_wp2
    go_ret
    exact ⟨ret_int HY.out.symm, B1.out⟩

set_option maxHeartbeats 4000000 in
set_option maxRecDepth 4000 in
theorem szThs {w : World} {v : Value} {ts : List Tq} {left : Int} (hv : RdThs w v ts) (h0 : 0 ≤ left) (h1 : left ≤ 1048576) :
    Calls Tryz.prog 5 #[v, .int .i64 left] w fun e w' => e = .returned (.int .i64 (szv left (szTw ts))) ∧ Below w.heap.size w w' := by
  obtain ⟨ao, c, rfl, hm⟩ := hv.shape
  have HV := hide hv
  have HS : Hid (szTw ts = (ts.length : Int) + szTq ts ts.length) := rfl
  have HSu := hide (szTq_succ ts)
  have HLe := hide (szTq_le ts)
  have HZo := hide (szTq_zero ts)
  obtain ⟨P, hP⟩ : ∃ P, szTw ts = P := ⟨_, rfl⟩
  rw [hP] at HS
  rw [hP]
  obtain ⟨n, hn⟩ : ∃ n, ts.length = n := ⟨_, rfl⟩
  have HN := hide hn
  rw [hn] at HV HS hm HSu ⊢
  clear hv hP hn
  have hps : 0 ≤ szTq ts n := by have h := HLe.out n 0; rw [HZo.out, Nat.zero_add] at h; exact h
  by_cases h : (n : Int) ≤ left
  · go_enter Tryz.func5, Tryz.ntmps5
    go_wp2
    go_loopw [1, 5] (fun t i wr => ∃ j : Nat, j ≤ n ∧ (n : Int) + szTq ts j ≤ left ∧ t = .int .i64 (left - ((n : Int) + szTq ts j)) ∧ i = .int .i64 j ∧ Hid (Below w.heap.size w wr)) (fun _ i _ => n - (intOf i).toNat)
    case atStart => exact ⟨0, Nat.zero_le _, by rw [HZo.out]; omega, by rw [HZo.out]; simp, rfl, Below.refl _ _⟩
    case round =>
      obtain ⟨j, hj, hs, rfl, rfl, HB⟩ := hrel
      have hsj : 0 ≤ szTq ts j := by have h := HLe.out j 0; rw [HZo.out, Nat.zero_add] at h; exact h
      by_cases hlt : j < n
      · obtain ⟨b, off, y, rfl, hr⟩ := HV.out.at (k := j) (by rw [HN.out]; exact hlt)
        have ht := HSu.out j hlt
        have hle := HLe.out (n - (j + 1)) (j + 1)
        rw [show j + 1 + (n - (j + 1)) = n by omega] at hle
        obtain ⟨x, hx⟩ : ∃ x, ts.getD j tq0 = x := ⟨_, rfl⟩
        rw [hx] at hr ht
        clear hx
        obtain ⟨g0, g1, g2, gO⟩ := hr.later HB.out
        have hrn := szOw_nonneg x.os
        obtain ⟨us, p, q⟩ := x
        dsimp only at g0 g1 g2 gO hrn ht
        obtain ⟨ay, cy, rfl, _⟩ := gO.shape
        obtain ⟨S1, hS1⟩ : ∃ s, szTq ts (j + 1) = s := ⟨_, rfl⟩
        rw [hS1] at ht hle
        have HS1 := hide hS1
        have hj0 : (0 : Int) ≤ (j : Int) := by omega
        have hj1 : (j : Int) < (n : Int) := by omega
        have hbl := World.block_lt_of_cell? _ _ g0
        have HC := hide (szTh (left := left - ((n : Int) + szTq ts j)) p q gO (by omega) (by omega))
        generalize szOw us = s at HC hrn ht
        generalize us.length = l at g0 HC
        obtain ⟨S0, hS0⟩ : ∃ x, szTq ts j = x := ⟨_, rfl⟩
        rw [hS0] at HC ht hs hsj ⊢
        clear gO hr hS1 hS0
        by_cases hy : (n : Int) + S1 ≤ left
        · have HY := hide (szv_yes (left := left - ((n : Int) + S0)) (s := s) (by omega))
          have hp : ¬ left - ((n : Int) + S0) - s < 0 := by omega
          go_wp2_with fail
          refine HC.out.mono ?_
          rintro e w' ⟨he, hb⟩
          rw [HY.out] at he
          subst he
          have HB2 := hide (below_on HB.out hb)
          clear hb g0 g1 g2
          go_wp2
          go_roundw
          case rel => exact ⟨j + 1, hlt, by rw [HS1.out]; exact hy, by rw [HS1.out, ht]; go_num, by go_num, HB2.out⟩
          case measure => simp [intOf]; omega
        · have HY := hide (szv_no (left := left - ((n : Int) + S0)) (s := s) (by omega))
          have HZ := hide (szv_no (left := left) (s := P) (by rw [HS.out]; omega))
          go_wp2_with fail
          refine HC.out.mono ?_
          rintro e w' ⟨he, hb⟩
          rw [HY.out] at he
          subst he
          have HB2 := hide (below_on HB.out hb)
          clear hb
          go_wp2
          go_ret
          exact ⟨ret_int HZ.out.symm, HB2.out⟩
      · have hjn : j = n := by omega
        subst hjn
        have HZ := hide (szv_yes (left := left) (s := P) (by rw [HS.out]; exact hs))
        rw [HS.out] at HZ
        go_wp2
        go_ret
        exact ⟨ret_int (by rw [HS.out]; exact HZ.out.symm), HB.out⟩
  · have HZ := hide (szv_no (left := left) (s := P) (by rw [HS.out]; omega))
    go_enter Tryz.func5, Tryz.ntmps5
    go_wp2
    go_ret
    exact ⟨ret_int HZ.out.symm, Below.refl _ _⟩

theorem eqTh {w : World} {u v : Value} {os : List Rf} (pc nd : Int) (hu : RdOps w u os) (hv : RdOps w v os) :
    Calls Tryz.prog 38 #[.agg #[u, .int .i64 pc, .int .i64 nd], .agg #[v, .int .i64 pc, .int .i64 nd]] w fun e w' => e = .returned (.bool true) ∧ Below w.heap.size w w' := by
  obtain ⟨ao, c, rfl, _⟩ := hu.shape
  obtain ⟨ao', c', rfl, _⟩ := hv.shape
  have BA := hide (below_on (below_alloc w (.cells #[.slice ao os.length c, .int .i64 pc, .int .i64 nd] 64)) (below_alloc _ (.cells #[.slice ao' os.length c', .int .i64 pc, .int .i64 nd] 64)))
  have HC := hide (eqOps (hu.later BA.out) (hv.later BA.out))
  have HL := hide (fun (w' : World) (hb : Below ((w.alloc (.cells #[.slice ao os.length c, .int .i64 pc, .int .i64 nd] 64)).alloc (.cells #[.slice ao' os.length c', .int .i64 pc, .int .i64 nd] 64)).heap.size ((w.alloc (.cells #[.slice ao os.length c, .int .i64 pc, .int .i64 nd] 64)).alloc (.cells #[.slice ao' os.length c', .int .i64 pc, .int .i64 nd] 64)) w') => hb)
  generalize os.length = n at *
  clear hu hv
  have d1 : ∀ w', Below ((w.alloc (.cells #[.slice ao n c, .int .i64 pc, .int .i64 nd] 64)).alloc (.cells #[.slice ao' n c', .int .i64 pc, .int .i64 nd] 64)).heap.size ((w.alloc (.cells #[.slice ao n c, .int .i64 pc, .int .i64 nd] 64)).alloc (.cells #[.slice ao' n c', .int .i64 pc, .int .i64 nd] 64)) w' → w'.cell? ⟨w.heap.size, 1, none⟩ = some (.int .i64 pc) ∧ w'.cell? ⟨w.heap.size, 2, none⟩ = some (.int .i64 nd) ∧ w'.cell? ⟨w.heap.size + 1, 1, none⟩ = some (.int .i64 pc) ∧ w'.cell? ⟨w.heap.size + 1, 2, none⟩ = some (.int .i64 nd) := fun w' hb => ⟨cell_later hb (by simp [go_sem]), cell_later hb (by simp [go_sem]), cell_later hb (by simp [go_sem]), cell_later hb (by simp [go_sem])⟩
  have HD := hide d1
  clear d1 HL
  go_enter Tryz.func38, Tryz.ntmps38
  go_wp2_with fail
  refine HC.out.mono ?_
  rintro e w1 ⟨rfl, hb⟩
  obtain ⟨c0, c1, c2, c3⟩ := HD.out _ hb
  have B1 := hide (below_on BA.out hb)
  clear hb
  go_wp2
  go_ret
  exact ⟨rfl, B1.out⟩

set_option maxHeartbeats 4000000 in
set_option maxRecDepth 4000 in
theorem eqThs {w : World} {u v : Value} {ts : List Tq} (hu : RdThs w u ts) (hv : RdThs w v ts) :
    Calls Tryz.prog 14 #[u, v] w fun e w' => e = .returned (.bool true) ∧ Below w.heap.size w w' := by
  obtain ⟨ao, c, rfl, hm⟩ := hu.shape
  obtain ⟨ao', c', rfl, _⟩ := hv.shape
  have HU := hide hu
  have HV := hide hv
  obtain ⟨n, hn⟩ : ∃ n, ts.length = n := ⟨_, rfl⟩
  have HN := hide hn
  rw [hn] at HU HV hm ⊢
  clear hu hv hn
  go_enter Tryz.func14, Tryz.ntmps14
  go_wp2
  go_loopw [5] (fun i wr => ∃ j : Nat, j ≤ n ∧ i = .int .i64 j ∧ Hid (Below w.heap.size w wr)) (fun i _ => n - (intOf i).toNat)
  case atStart => exact ⟨0, Nat.zero_le _, rfl, Below.refl _ _⟩
  case round =>
    obtain ⟨j, hj, rfl, HB⟩ := hrel
    by_cases hlt : j < n
    · obtain ⟨b, off, y, rfl, hr⟩ := HU.out.at (k := j) (by rw [HN.out]; exact hlt)
      obtain ⟨b', off', y', rfl, hr'⟩ := HV.out.at (k := j) (by rw [HN.out]; exact hlt)
      obtain ⟨x, hx⟩ : ∃ x, ts.getD j tq0 = x := ⟨_, rfl⟩
      rw [hx] at hr hr'
      clear hx
      obtain ⟨g0, g1, g2, gO⟩ := hr.later HB.out
      obtain ⟨k0, k1, k2, kO⟩ := hr'.later HB.out
      obtain ⟨us, p, q⟩ := x
      dsimp only at g0 g1 g2 gO k0 k1 k2 kO
      obtain ⟨ay, cy, rfl, _⟩ := gO.shape
      obtain ⟨ay', cy', rfl, _⟩ := kO.shape
      have HE := hide (fun (w' : World) (hb : Below wr.heap.size wr w') => eqTh p q (gO.later hb) (kO.later hb))
      generalize us.length = l at g0 k0 HE
      have hj0 : (0 : Int) ≤ (j : Int) := by omega
      have hj1 : (j : Int) < (n : Int) := by omega
      have hbl := World.block_lt_of_cell? _ _ g0
      have hbl' := World.block_lt_of_cell? _ _ k0
      clear gO kO hr hr'
      (try go_wp2_with fail)
      go_region_held3 (fun w' => w'.cell? ⟨b, off + j * 3, none⟩ = some (.slice ay l cy) ∧ w'.cell? ⟨b, off + j * 3 + 1, none⟩ = some (.int .i64 p) ∧ w'.cell? ⟨b, off + j * 3 + 2, none⟩ = some (.int .i64 q) ∧ w'.cell? ⟨b', off' + j * 3, none⟩ = some (.slice ay' l cy') ∧ w'.cell? ⟨b', off' + j * 3 + 1, none⟩ = some (.int .i64 p) ∧ w'.cell? ⟨b', off' + j * 3 + 2, none⟩ = some (.int .i64 q)) (first | exact ⟨g0, g1, g2, k0, k1, k2⟩ | exact ⟨u0, u1, u2, u3, u4, u5⟩)
        ((go_at_call 38; refine (HE.out _ (below_drewN wr 1)).mono ?_; rintro e w7 ⟨rfl, hb7⟩; have u0 := cell_later hb7 g0; have u1 := cell_later hb7 g1; have u2 := cell_later hb7 g2; have u3 := cell_later hb7 k0; have u4 := cell_later hb7 k1; have u5 := cell_later hb7 k2; have HB7 := hide (below_on HB.out (below_on (below_drewN wr 1) hb7)); clear hb7))
      go_wp2
      go_roundw
      case rel => exact ⟨j + 1, hlt, by go_num, HB7.out⟩
      case measure => simp [intOf]; omega
    · have hjn : j = n := by omega
      subst hjn
      go_wp2
      go_ret
      exact ⟨rfl, HB.out⟩
end Go.Proofs.YtcmdgnemkjfckaaGreatDoor
