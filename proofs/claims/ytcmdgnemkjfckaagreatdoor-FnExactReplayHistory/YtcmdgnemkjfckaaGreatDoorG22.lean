/- Th3 Dn Dn2 in one text: what each says stands at its head below. -/
import Derived.Test.YtcmdgnemkjfckaaGreatDoorG12
import Derived.Test.YtcmdgnemkjfckaaGreatDoorG21
import Derived.Test.YtcmdgnemkjfckaaGreatDoorG02
/- Chapter 14: lists of threads among the arguments: marked. Made by program (genth.py). -/
namespace Go.Proofs.YtcmdgnemkjfckaaGreatDoor
open Go.RowKit

def mkTq (ts : List Tq) (i : Nat) : Int := ((ts.take i).map fun t => mkOq t.os t.os.length + 2).sum
theorem mkTq_zero (ts : List Tq) : mkTq ts 0 = 0 := by simp [mkTq]
theorem mkTq_succ (ts : List Tq) (i : Nat) (h : i < ts.length) : mkTq ts (i + 1) = mkTq ts i + (mkOq (ts.getD i tq0).os (ts.getD i tq0).os.length + 2) := by
  have e : ts.getD i tq0 = ts[i] := by simp [List.getD, h]
  unfold mkTq
  rw [e, List.take_succ_eq_append_getElem h, List.map_append, List.sum_append]
  simp
theorem mkOq_sz (os : List Rf) : 0 ≤ mkOq os os.length ∧ mkOq os os.length ≤ 4 * szOw os := by
  have h1 := mkOq_le os os.length (Nat.le_refl _)
  have h2 := szOq_le os os.length 0
  rw [szOq_zero, Nat.zero_add] at h2
  unfold szOw
  omega
theorem mkTq_le (ts : List Tq) : ∀ i, i ≤ ts.length → 0 ≤ mkTq ts i ∧ mkTq ts i ≤ 2 * (i : Int) + 4 * szTq ts i
  | 0, _ => by rw [mkTq_zero, szTq_zero]; decide
  | i + 1, h => by
    have h1 := mkTq_le ts i (by omega)
    have h2 := mkOq_sz (ts.getD i tq0).os
    rw [mkTq_succ ts i h, szTq_succ ts i h]
    push_cast
    omega
theorem mkTq_szTw {ts : List Tq} (h : szTw ts ≤ 1048576) : 0 ≤ mkTq ts ts.length ∧ mkTq ts ts.length ≤ 4194304 := by
  have h1 := mkTq_le ts ts.length (Nat.le_refl _)
  have h2 := szTq_le ts ts.length 0
  rw [szTq_zero, Nat.zero_add] at h2
  unfold szTw at h
  omega
theorem mkTq_mono (ts : List Tq) : ∀ (d i : Nat), i + d ≤ ts.length → mkTq ts i ≤ mkTq ts (i + d)
  | 0, i, _ => Int.le_refl _
  | d + 1, i, h => by
    have h1 := mkTq_mono ts d i (by omega)
    have h2 := mkOq_sz (ts.getD (i + d) tq0).os
    rw [show i + (d + 1) = (i + d) + 1 by omega, mkTq_succ ts (i + d) (by omega)]
    omega

set_option maxHeartbeats 4000000 in
set_option maxRecDepth 4000 in
theorem markThs {lo hi : Nat} {w : World} {v : Value} {ts : List Tq} {k : Int} (h : OwThs lo hi w v ts) (hk0 : 0 ≤ k) (hk : k + mkTq ts ts.length ≤ 9223372036854775807) :
    Calls Tryz.prog 17 #[v, .int .i64 k] w fun e w' => e = .returned (.int .i64 (k + mkTq ts ts.length)) ∧ Wr (fun b => lo ≤ b ∧ b < hi) w w' := by
  obtain ⟨b, c, Y, L, rfl, hn1, hlo, hfz, hmo, hL, hO⟩ := h
  have HF := hide hfz
  have HM := hide hmo
  have HL := hide hL
  have HO := hide hO
  have HSu := hide (mkTq_succ ts)
  have HMm := hide (mkTq_mono ts)
  have HNn := hide (fun i hi => (mkTq_le ts i hi).1)
  obtain ⟨n, hn⟩ : ∃ n, ts.length = n := ⟨_, rfl⟩
  rw [hn] at HM HL HO HSu HMm HNn hn1 hk ⊢
  have hz := mkTq_zero ts
  clear hfz hmo hL hO hn
  obtain ⟨hlo1, hlo2, hlo3⟩ := hlo
  go_enter Tryz.func17, Tryz.ntmps17
  go_wp2
  go_loopw [1, 5] (fun t i wr => ∃ j : Nat, j ≤ n ∧ t = .int .i64 (k + mkTq ts j) ∧ i = .int .i64 j ∧ Hid (Wr (fun b => lo ≤ b ∧ b < hi) w wr) ∧ Hid (∀ i, j ≤ i → i < n → OwTh wr b (i * 3) (Y i) (L i) (L (i + 1)) (ts.getD i tq0))) (fun _ i _ => n - (intOf i).toNat)
  case atStart => exact ⟨0, Nat.zero_le _, by rw [hz]; simp, rfl, Wr.refl _ _, fun i _ hi => HO.out i hi⟩
  case round =>
    clear hz HO
    obtain ⟨j, hj, rfl, rfl, HW, HR⟩ := hrel
    by_cases hlt : j < n
    · obtain ⟨c0, c1, c2, iv⟩ := HR.out j (Nat.le_refl _) hlt
      have ht := HSu.out j hlt
      have hmm := HMm.out (n - (j + 1)) (j + 1) (by omega)
      rw [show j + 1 + (n - (j + 1)) = n by omega] at hmm
      have hnn := HNn.out j hj
      have hl1 := HL.out j hj
      have hl2 := HL.out (j + 1) hlt
      have HFr : Hid (∀ o, wr.frozen? ⟨b, o, none⟩ = false) := fun o => (HW.out.frz _ _ (by omega)).trans (HF.out o)
      obtain ⟨S1, hS1⟩ : ∃ s, mkTq ts (j + 1) = s := ⟨_, rfl⟩
      rw [hS1] at ht hmm
      have HS1 := hide hS1
      obtain ⟨S0, hS0⟩ : ∃ s, mkTq ts j = s := ⟨_, rfl⟩
      rw [hS0] at ht hnn ⊢
      obtain ⟨K, hK⟩ : ∃ K, k + S0 = K := ⟨_, rfl⟩
      rw [hK]
      obtain ⟨x, hx⟩ : ∃ x, ts.getD j tq0 = x := ⟨_, rfl⟩
      rw [hx] at c1 c2 iv ht
      clear hx hS1 hS0
      obtain ⟨us, p, q⟩ := x
      dsimp only at c0 c1 c2 iv ht
      have hms := (mkOq_sz us).1
      obtain ⟨ay, cy, ey⟩ := iv.shape
      rw [ey] at c0 iv
      have HC := hide (fun (hk0 : 0 ≤ K) (hk1 : K + mkOq us us.length ≤ 9223372036854775807) => markOps iv hk0 hk1)
      generalize mkOq us us.length = T at ht hms HC
      generalize us.length = l at c0 HC
      have hK0 : 0 ≤ K := by omega
      have hK1 : K + T + 2 ≤ 9223372036854775807 := by omega
      have hj0 : (0 : Int) ≤ (j : Int) := by omega
      have hj1 : (j : Int) < (n : Int) := by omega
      have hbl := World.block_lt_of_cell? _ _ c0
      have C1 := hide c1
      have C2 := hide c2
      clear ey iv c1 c2
      go_wp2_with fail
      refine (HC.out hK0 (by omega)).mono ?_
      rintro e w1 ⟨rfl, hw1⟩
      have d1 := cell_wr hw1 C1.out (fun e => by omega)
      have d2 := cell_wr hw1 C2.out (fun e => by omega)
      have f1 := (hw1.frz b (j * 3 + 1) hbl).trans (HFr.out (j * 3 + 1))
      have f2 := (hw1.frz b (j * 3 + 2) hbl).trans (HFr.out (j * 3 + 2))
      have HW1 := hide hw1
      have hK2 : 0 ≤ K + T := by omega
      have HW2 : Hid (Wr (fun x => x = b) w1 ((w1.setCell ⟨b, j * 3 + 1, none⟩ (.int .i64 (K + T))).setCell ⟨b, j * 3 + 2, none⟩ (.int .i64 (K + T + 1)))) := ((Wr.refl (fun x => x = b) _).setCell (p := ⟨b, j * 3 + 1, none⟩) rfl _).setCell (p := ⟨b, j * 3 + 2, none⟩) rfl _
      have HOt : Hid (∀ q, q ≠ j * 3 + 1 → q ≠ j * 3 + 2 → ((w1.setCell ⟨b, j * 3 + 1, none⟩ (.int .i64 (K + T))).setCell ⟨b, j * 3 + 2, none⟩ (.int .i64 (K + T + 1))).cell? ⟨b, q, none⟩ = w1.cell? ⟨b, q, none⟩) := fun q h1 h2 => by
        rw [World.cell?_setCell_other _ _ _ _ (by intro e; exact h2 (congrArg Addr.off e).symm), World.cell?_setCell_other _ _ _ _ (by intro e; exact h1 (congrArg Addr.off e).symm)]
      have HW3 : Hid (Wr (fun x => x = b ∨ (L j ≤ x ∧ x < L (j + 1))) wr ((w1.setCell ⟨b, j * 3 + 1, none⟩ (.int .i64 (K + T))).setCell ⟨b, j * 3 + 2, none⟩ (.int .i64 (K + T + 1)))) := (HW1.out.mono (fun x e => Or.inr e)).trans (HW2.out.mono (fun x e => Or.inl e))
      have HR3 : Hid (∀ i, j + 1 ≤ i → i < n → OwTh ((w1.setCell ⟨b, j * 3 + 1, none⟩ (.int .i64 (K + T))).setCell ⟨b, j * 3 + 2, none⟩ (.int .i64 (K + T + 1))) b (i * 3) (Y i) (L i) (L (i + 1)) (ts.getD i tq0)) := fun i hi1 hi2 => by
        obtain ⟨d0, d1, d2, div⟩ := HR.out i (by omega) hi2
        have hmi := HM.out (j + 1) i hi1 (by omega)
        have hli := HL.out i (by omega)
        have up : ∀ q, q < 3 → ((w1.setCell ⟨b, j * 3 + 1, none⟩ (.int .i64 (K + T))).setCell ⟨b, j * 3 + 2, none⟩ (.int .i64 (K + T + 1))).cell? ⟨b, i * 3 + q, none⟩ = wr.cell? ⟨b, i * 3 + q, none⟩ := fun q hq =>
          (HOt.out (i * 3 + q) (by omega) (by omega)).trans (HW1.out.cell (b := b) (o := i * 3 + q) hbl (fun e => by omega))
        exact ⟨(up 0 (by omega)).trans d0, (up 1 (by omega)).trans d1, (up 2 (by omega)).trans d2, div.wr HW3.out (fun x k1 k2 e => by omega)⟩
      have HW4 := hide (HW.out.trans (HW3.out.mono (fun x e => by omega)))
      clear hw1
      go_wp2
      go_roundw
      case rel => exact ⟨j + 1, hlt, by rw [HS1.out, ht, ← hK]; go_num, by go_num, HW4.out, HR3.out⟩
      case measure => simp [intOf]; omega
    · have hjn : j = n := by omega
      subst hjn
      go_wp2
      go_ret
      exact ⟨rfl, HW.out⟩
end Go.Proofs.YtcmdgnemkjfckaaGreatDoor
/- Chapter 15: lists of what was done: readings of them, and the laws' helpers over them. Made by program (gendn.py). -/
namespace Go.Proofs.YtcmdgnemkjfckaaGreatDoor
open Go.RowKit

/-- What was done: the thread, which of its operations, the reply, the value. -/
abbrev Dn := Int × Int × Int × Int
def dn0 : Dn := (0, 0, 0, 0)

/-- The four cells of the k-th of them. -/
def DnAt (w : World) (b off k : Nat) (q : Dn) : Prop := w.cell? ⟨b, off + k * 4, none⟩ = some (.int .i64 q.1) ∧ w.cell? ⟨b, off + k * 4 + 1, none⟩ = some (.int .i64 q.2.1) ∧ w.cell? ⟨b, off + k * 4 + 2, none⟩ = some (.int .i64 q.2.2.1) ∧ w.cell? ⟨b, off + k * 4 + 3, none⟩ = some (.int .i64 q.2.2.2)
theorem DnAt.map {w w' : World} {b off k : Nat} {q : Dn} (h : DnAt w b off k q) (f : ∀ o v, w.cell? ⟨b, o, none⟩ = some v → w'.cell? ⟨b, o, none⟩ = some v) : DnAt w' b off k q :=
  ⟨f _ _ h.1, f _ _ h.2.1, f _ _ h.2.2.1, f _ _ h.2.2.2⟩
theorem DnAt.later {w w' : World} {b off k : Nat} {q : Dn} (h : DnAt w b off k q) (hb : Below w.heap.size w w') : DnAt w' b off k q := h.map fun _ _ h => cell_later hb h
theorem DnAt.wr {T : Nat → Prop} {w w' : World} {b off k : Nat} {q : Dn} (h : DnAt w b off k q) (hw : Wr T w w') (hd : ¬ T b) : DnAt w' b off k q := h.map fun _ _ h => cell_wr hw h hd

/-- The slice value v reads as the list os (four cells each), all of them in a block of S. -/
def RdDn (S : Nat → Prop) (w : World) (v : Value) (os : List Dn) : Prop :=
  ∃ (ao : Option Addr) (c : Nat), v = .slice ao os.length (os.length + c) ∧ os.length ≤ 9223372036854775807 ∧
    (os ≠ [] → ∃ b off, ao = some ⟨b, off, none⟩ ∧ S b ∧ ∀ i, i < os.length → DnAt w b off i (os.getD i dn0))
theorem RdDn.shape {S : Nat → Prop} {w : World} {v : Value} {os : List Dn} (h : RdDn S w v os) : ∃ ao c, v = .slice ao os.length c := by
  obtain ⟨ao, c, h1, _⟩ := h
  exact ⟨ao, _, h1⟩
theorem RdDn.max {S : Nat → Prop} {w : World} {v : Value} {os : List Dn} (h : RdDn S w v os) : os.length ≤ 9223372036854775807 := by
  obtain ⟨ao, c, _, h2, _⟩ := h
  exact h2
theorem RdDn.later {S : Nat → Prop} {w w' : World} {v : Value} {os : List Dn} (h : RdDn S w v os) (hb : Below w.heap.size w w') : RdDn S w' v os := by
  obtain ⟨ao, c, h1, h2, h3⟩ := h
  refine ⟨ao, c, h1, h2, fun hne => ?_⟩
  obtain ⟨b, off, e, hs, hc⟩ := h3 hne
  exact ⟨b, off, e, hs, fun i hi => (hc i hi).later hb⟩
theorem RdDn.wr {S T : Nat → Prop} {w w' : World} {v : Value} {os : List Dn} (h : RdDn S w v os) (hw : Wr T w w') (hd : os ≠ [] → ∀ b, S b → ¬ T b) : RdDn S w' v os := by
  obtain ⟨ao, c, h1, h2, h3⟩ := h
  refine ⟨ao, c, h1, h2, fun hne => ?_⟩
  obtain ⟨b, off, e, hs, hc⟩ := h3 hne
  exact ⟨b, off, e, hs, fun i hi => (hc i hi).wr hw (hd hne b hs)⟩
theorem RdDn.narrow {S T : Nat → Prop} {w : World} {v : Value} {os : List Dn} (h : RdDn S w v os) (hT : os ≠ [] → ∀ b, S b → T b) : RdDn T w v os := by
  obtain ⟨ao, c, h1, h2, h3⟩ := h
  refine ⟨ao, c, h1, h2, fun hne => ?_⟩
  obtain ⟨b, off, e, hb, hc⟩ := h3 hne
  exact ⟨b, off, e, hT hne b hb, hc⟩
theorem RdDn.drewN {S : Nat → Prop} {w : World} {v : Value} {os : List Dn} (h : RdDn S w v os) (n : Nat) : RdDn S (w.drewN n) v os := h
/-- The cells of the k-th. -/
theorem RdDn.at {S : Nat → Prop} {w : World} {ao : Option Addr} {n c : Nat} {os : List Dn} (h : RdDn S w (.slice ao n c) os) {k : Nat} (hk : k < os.length) :
    ∃ b off, ao = some ⟨b, off, none⟩ ∧ DnAt w b off k (os.getD k dn0) := by
  obtain ⟨ao', c', h1, _, h3⟩ := h
  injection h1 with e1 e2 e3
  subst e1
  obtain ⟨b, off, e, _, hc⟩ := h3 (by rintro rfl; exact absurd hk (Nat.not_lt_zero _))
  exact ⟨b, off, e, hc k hk⟩

/-- .. in one block that is the call's own, from B on. -/
def OwDn (B : Nat) (w : World) (v : Value) (os : List Dn) : Prop :=
  ∃ b, RdDn (· = b) w v os ∧ (os ≠ [] → B ≤ b ∧ b < w.heap.size ∧ ∀ o, w.frozen? ⟨b, o, none⟩ = false)
theorem OwDn.rd {B : Nat} {w : World} {v : Value} {os : List Dn} (h : OwDn B w v os) : RdDn (fun b => B ≤ b ∧ b < w.heap.size) w v os := by
  obtain ⟨b, h1, h2⟩ := h
  exact h1.narrow fun hne x hx => hx ▸ ⟨(h2 hne).1, (h2 hne).2.1⟩
theorem OwDn.shape {B : Nat} {w : World} {v : Value} {os : List Dn} (h : OwDn B w v os) : ∃ ao c, v = .slice ao os.length c := by
  obtain ⟨b, h1, h2⟩ := h
  exact h1.shape
/-- In one block of [lo, hi), not frozen. -/
def IvDn (lo hi : Nat) (w : World) (v : Value) (os : List Dn) : Prop :=
  ∃ b, RdDn (· = b) w v os ∧ (os ≠ [] → lo ≤ b ∧ b < hi ∧ b < w.heap.size ∧ ∀ o, w.frozen? ⟨b, o, none⟩ = false)
theorem OwDn.iv {B : Nat} {w : World} {v : Value} {os : List Dn} (h : OwDn B w v os) : IvDn B w.heap.size w v os := by
  obtain ⟨b, h1, h2⟩ := h
  exact ⟨b, h1, fun hne => ⟨(h2 hne).1, (h2 hne).2.1, (h2 hne).2.1, (h2 hne).2.2⟩⟩
theorem IvDn.wr {lo hi : Nat} {T : Nat → Prop} {w w' : World} {v : Value} {os : List Dn} (h : IvDn lo hi w v os) (hw : Wr T w w') (hd : ∀ b, lo ≤ b → b < hi → ¬ T b) : IvDn lo hi w' v os := by
  obtain ⟨b, h1, h2⟩ := h
  refine ⟨b, h1.wr hw (fun hne x hx => by subst hx; exact hd _ (h2 hne).1 (h2 hne).2.1), fun hne => ?_⟩
  obtain ⟨k1, k2, k3, k4⟩ := h2 hne
  exact ⟨k1, k2, Nat.lt_of_lt_of_le k3 hw.size, fun o => by rw [hw.frz _ _ k3]; exact k4 o⟩
theorem IvDn.later {lo hi : Nat} {w w' : World} {v : Value} {os : List Dn} (h : IvDn lo hi w v os) (hb : Below w.heap.size w w') : IvDn lo hi w' v os :=
  h.wr (Wr.of_below hb fun _ => False) fun _ _ _ => id
theorem IvDn.rd {lo hi : Nat} {w : World} {v : Value} {os : List Dn} (h : IvDn lo hi w v os) : RdDn (fun b => lo ≤ b ∧ b < hi) w v os := by
  obtain ⟨b, h1, h2⟩ := h
  exact h1.narrow fun hne x hx => hx ▸ ⟨(h2 hne).1, (h2 hne).2.1⟩

/-- 'szDoneS'. -/
theorem szDn {S : Nat → Prop} {w : World} {v : Value} {os : List Dn} {left : Int} (hv : RdDn S w v os) (h0 : 0 ≤ left) (h1 : left ≤ 1048576) :
    Calls Tryz.prog 6 #[v, .int .i64 left] w fun e w' => e = .returned (.int .i64 (szv left (os.length : Int))) ∧ Below w.heap.size w w' := by
  obtain ⟨ao, c, rfl, hm, _⟩ := hv
  obtain ⟨n, hn⟩ : ∃ n, os.length = n := ⟨_, rfl⟩
  rw [hn] at hm ⊢
  clear hn
  by_cases h : (n : Int) ≤ left
  · have HZ := hide (szv_yes h)
    go_enter Tryz.func6, Tryz.ntmps6
    go_wp2
    go_ret
    exact ⟨ret_int HZ.out.symm, Below.refl _ _⟩
  · have HZ := hide (szv_no (left := left) (s := (n : Int)) (by omega))
    go_enter Tryz.func6, Tryz.ntmps6
    go_wp2
    go_ret
    exact ⟨ret_int HZ.out.symm, Below.refl _ _⟩

/-- 'eqDone' of two readings of one. -/
theorem eqDone (x y z u : Int) (w : World) :
    Calls Tryz.prog 39 #[.agg #[.int .i64 x, .int .i64 y, .int .i64 z, .int .i64 u], .agg #[.int .i64 x, .int .i64 y, .int .i64 z, .int .i64 u]] w fun e w' => e = .returned (.bool true) ∧ Below w.heap.size w w' := by
  go_enter Tryz.func39, Tryz.ntmps39
  go_wp2
  go_ret
  exact ⟨rfl, below_on (below_alloc _ _) (below_alloc _ _)⟩

set_option maxHeartbeats 1000000 in
theorem eqDn_cells (os : List Dn) (n b off c b' off' c' : Nat) (w : World) (hm : n ≤ 9223372036854775807)
    (hx : ∀ i, i < n → DnAt w b off i (os.getD i dn0))
    (hy : ∀ i, i < n → DnAt w b' off' i (os.getD i dn0)) :
    Calls Tryz.prog 15 #[.slice (some ⟨b, off, none⟩) n c, .slice (some ⟨b', off', none⟩) n c'] w fun e w' =>
      e = .returned (.bool true) ∧ Below w.heap.size w w' := by
  have HX := hide hx
  have HY := hide hy
  clear hx hy
  go_enter Tryz.func15, Tryz.ntmps15
  go_wp2
  go_loopw [5] (fun i wr => ∃ k : Nat, k ≤ n ∧ i = .int .i64 k ∧ Hid (Below w.heap.size w wr)) (fun i _ => n - (intOf i).toNat)
  case atStart => exact ⟨0, Nat.zero_le _, rfl, Below.refl _ _⟩
  case round =>
    obtain ⟨k, hk, rfl, HB⟩ := hrel
    by_cases hlt : k < n
    · have hA := (HX.out k hlt).later HB.out
      have hB := (HY.out k hlt).later HB.out
      obtain ⟨q, hq⟩ : ∃ q, os.getD k dn0 = q := ⟨_, rfl⟩
      rw [hq] at hA hB
      clear hq
      obtain ⟨x, y, z, u⟩ := q
      obtain ⟨g0, g1, g2, g3⟩ := hA
      obtain ⟨g4, g5, g6, g7⟩ := hB
      simp only [] at g0 g1 g2 g3 g4 g5 g6 g7
      have hk0 : (0 : Int) ≤ (k : Int) := Int.natCast_nonneg _
      have hk1 : (k : Int) < (n : Int) := by omega
      go_wp2_with fail
      go_region_held3 (fun w' => w'.cell? ⟨b, off + k * 4, none⟩ = some (.int .i64 x) ∧ w'.cell? ⟨b, off + k * 4 + 1, none⟩ = some (.int .i64 y) ∧ w'.cell? ⟨b, off + k * 4 + 2, none⟩ = some (.int .i64 z) ∧ w'.cell? ⟨b, off + k * 4 + 3, none⟩ = some (.int .i64 u) ∧ w'.cell? ⟨b', off' + k * 4, none⟩ = some (.int .i64 x) ∧ w'.cell? ⟨b', off' + k * 4 + 1, none⟩ = some (.int .i64 y) ∧ w'.cell? ⟨b', off' + k * 4 + 2, none⟩ = some (.int .i64 z) ∧ w'.cell? ⟨b', off' + k * 4 + 3, none⟩ = some (.int .i64 u)) (first | exact ⟨g0, g1, g2, g3, g4, g5, g6, g7⟩ | exact ⟨c0, c1, c2, c3, c4, c5, c6, c7⟩)
        (first
          | (go_at_call 39; refine (eqDone x y z u _).mono ?_; rintro e w' ⟨rfl, hb⟩; have c0 := cell_later hb g0; have c1 := cell_later hb g1; have c2 := cell_later hb g2; have c3 := cell_later hb g3; have c4 := cell_later hb g4; have c5 := cell_later hb g5; have c6 := cell_later hb g6; have c7 := cell_later hb g7; have HB' := hide hb; clear hb))
      go_wp2
      go_roundw
      case rel => exact ⟨k + 1, by omega, by go_num, below_on HB.out (below_on (below_drewN wr 1) HB'.out)⟩
      case measure => simp [intOf]; omega
    · go_wp2
      go_ret
      exact ⟨rfl, HB.out⟩
theorem eqDn_none (ao ao' : Option Addr) (c c' : Nat) (w : World) :
    Calls Tryz.prog 15 #[.slice ao 0 c, .slice ao' 0 c'] w fun e w' => e = .returned (.bool true) ∧ Below w.heap.size w w' := by
  go_enter Tryz.func15, Tryz.ntmps15
  go_wp2
  go_loopw [5] (fun i wr => i = .int .i64 0 ∧ wr = w) (fun _ _ => 0)
  case atStart => exact ⟨rfl, rfl⟩
  case round =>
    obtain ⟨rfl, rfl⟩ := hrel
    go_wp2
    go_ret
    exact ⟨rfl, Below.refl _ _⟩
theorem eqDn {S T : Nat → Prop} {w : World} {u v : Value} {os : List Dn} (hu : RdDn S w u os) (hv : RdDn T w v os) :
    Calls Tryz.prog 15 #[u, v] w fun e w' => e = .returned (.bool true) ∧ Below w.heap.size w w' := by
  obtain ⟨ao, c, rfl, hm, h⟩ := hu
  obtain ⟨ao', c', rfl, _, h'⟩ := hv
  by_cases hne : os = []
  · subst hne; exact eqDn_none _ _ _ _ _
  · obtain ⟨b, off, rfl, _, hc⟩ := h hne
    obtain ⟨b', off', rfl, _, hc'⟩ := h' hne
    exact eqDn_cells os _ _ _ _ _ _ _ _ hm hc hc'

/-- 'toDone'. -/
theorem toDone (x y z u : Int) (w : World) :
    Calls Tryz.prog 32 #[.agg #[.int .i64 x, .int .i64 y, .int .i64 z, .int .i64 u]] w fun e w' => e = .returned (.agg #[.int .i64 x, .int .i64 y, .int .i64 z, .int .i64 u]) ∧ Below w.heap.size w w' := by
  go_enter Tryz.func32, Tryz.ntmps32
  go_wp2
  refine bodyPost_ret (v := .agg #[.int .i64 x, .int .i64 y, .int .i64 z, .int .i64 u]) (by simp [results, Tryz.results32, go_sem]) rfl ⟨rfl, ?_⟩
  repeat (first | refine Below.setCell ?_ (by simp) _ | exact below_alloc _ _ | exact below_on (below_alloc _ _) (below_alloc _ _) | exact below_on (below_on (below_alloc _ _) (below_alloc _ _)) (below_alloc _ _))

theorem Tryz.infoDone : (Tryz.prog.info? 60).map (fun i => (i.zero, i.size, i.bytes)) = some (some (.agg #[.int .i64 0, .int .i64 0, .int .i64 0, .int .i64 0]), 4, 32) := by kernel_rfl
theorem run_make_dn (n : Nat) (hn : n ≤ 1048576) (w : World) :
    (Instr.makeSlice 40 (.int .i64 (n : Int)) (.int .i64 (n : Int))).run Tryz.prog w = .ok (.slice (some ⟨w.heap.size, 0, none⟩) n n) (w.alloc (.cells (madeCells #[.int .i64 0, .int .i64 0, .int .i64 0, .int .i64 0] (n * 4)) 60)) := by
  obtain ⟨i, hi, hz, hs, hb⟩ := info_parts Tryz.infoDone
  have hr := run_make (P := Tryz.prog) w 40 60 i (.agg #[.int .i64 0, .int .i64 0, .int .i64 0, .int .i64 0]) Tryz.underlying40 hi hz .i64 .i64 n n (by omega) (Int.le_refl _) (by rw [hb]; omega) (by omega)
  simp only [Int.toNat_natCast, hs] at hr
  exact hr

/-- Cell t of one of them. -/
def dnC (q : Dn) (t : Nat) : Int := if t = 0 then q.1 else if t = 1 then q.2.1 else if t = 2 then q.2.2.1 else q.2.2.2
/-- Cell t of the row, j of which are copied. -/
def dnCell (os : List Dn) (j t : Nat) : Value := if t / 4 < j then .int .i64 (dnC (os.getD (t / 4) dn0) (t % 4)) else .int .i64 0
theorem dnCell_at (os : List Dn) (j i t : Nat) (h : i < j) (ht : t < 4) : dnCell os j (i * 4 + t) = .int .i64 (dnC (os.getD i dn0) t) := by
  unfold dnCell
  rw [show (i * 4 + t) / 4 = i by omega, show (i * 4 + t) % 4 = t by omega, if_pos h]
structure ToAtDn (os : List Dn) (w : World) (j : Nat) (wr : World) : Prop where
  below : Below w.heap.size w wr
  lt : w.heap.size < wr.heap.size
  row : wr.rowIs w.heap.size 60 (os.length * 4) (dnCell os j)
theorem ToAtDn.step {os : List Dn} {w : World} {j : Nat} {wr w1 : World} {x y z u : Int} (h : ToAtDn os w j wr) (hb : Below wr.heap.size wr w1) (hq : os.getD j dn0 = (x, y, z, u)) :
    ToAtDn os w (j + 1) ((((w1.setCell ⟨w.heap.size, j * 4, none⟩ (.int .i64 x)).setCell ⟨w.heap.size, j * 4 + 1, none⟩ (.int .i64 y)).setCell ⟨w.heap.size, j * 4 + 2, none⟩ (.int .i64 z)).setCell ⟨w.heap.size, j * 4 + 3, none⟩ (.int .i64 u)) := by
  have hl := h.lt
  have hz := hb.size
  refine ⟨((((below_on h.below hb).setCell (Nat.le_refl _) _).setCell (Nat.le_refl _) _).setCell (Nat.le_refl _) _).setCell (Nat.le_refl _) _, by simp; omega, ?_⟩
  refine (((((h.row.of_block (hb.block _ hl)).set (j * 4) _).set (j * 4 + 1) _).set (j * 4 + 2) _).set (j * 4 + 3) _).congr fun i hi => ?_
  have at0 := dnCell_at os (j + 1) j 0 (by omega) (by omega)
  have at1 := dnCell_at os (j + 1) j 1 (by omega) (by omega)
  have at2 := dnCell_at os (j + 1) j 2 (by omega) (by omega)
  have at3 := dnCell_at os (j + 1) j 3 (by omega) (by omega)
  rw [hq] at at0 at1 at2 at3
  have at0 : dnCell os (j + 1) (j * 4) = .int .i64 (dnC (x, y, z, u) 0) := at0
  by_cases e3 : i = j * 4 + 3
  · subst e3; rw [if_pos rfl, at3]; rfl
  · rw [if_neg e3]
    by_cases e2 : i = j * 4 + 2
    · subst e2; rw [if_pos rfl, at2]; rfl
    · rw [if_neg e2]
      by_cases e1 : i = j * 4 + 1
      · subst e1; rw [if_pos rfl, at1]; rfl
      · rw [if_neg e1]
        by_cases e0 : i = j * 4
        · subst e0; rw [if_pos rfl, at0]; rfl
        · rw [if_neg e0]
          unfold dnCell
          by_cases e : i / 4 < j
          · rw [if_pos e, if_pos (show i / 4 < j + 1 by omega)]
          · rw [if_neg e, if_neg (show ¬ i / 4 < j + 1 by omega)]
theorem made_dns (w : World) (os : List Dn) (n : Nat) (hn : os.length = n) (t : TypeId) : (w.alloc (.cells (madeCells #[.int .i64 0, .int .i64 0, .int .i64 0, .int .i64 0] (n * 4)) t)).rowIs w.heap.size t (os.length * 4) (dnCell os 0) := by
  subst hn
  refine ⟨_, Deep.blk_alloc_new _ _, size_madeCells _ _, fun i hi => ?_⟩
  unfold dnCell
  rw [if_neg (Nat.not_lt_zero _)]
  have h4 : i % 4 = 0 ∨ i % 4 = 1 ∨ i % 4 = 2 ∨ i % 4 = 3 := by omega
  rcases h4 with e | e | e | e <;> simp [madeCells, hi, e]

set_option maxHeartbeats 1000000 in
theorem toDn_cells (os : List Dn) (n b off c : Nat) (w : World) (hn : os.length = n) (hm : n ≤ 1048576)
    (hx : ∀ i, i < n → DnAt w b off i (os.getD i dn0)) :
    Calls Tryz.prog 10 #[.slice (some ⟨b, off, none⟩) n c] w fun e w' =>
      e = .returned (.slice (some ⟨w.heap.size, 0, none⟩) n n) ∧ ToAtDn os w n w' := by
  have hmk := run_make_dn n hm
  have HX := hide hx
  have HN := hide hn
  clear hx hn
  go_enter Tryz.func10, Tryz.ntmps10
  go_wp2
  go_loopw [4] (fun i wr => ∃ j : Nat, j ≤ n ∧ i = .int .i64 j ∧ Hid (ToAtDn os w j wr)) (fun i _ => n - (intOf i).toNat)
  case atStart => exact ⟨0, Nat.zero_le _, rfl, below_alloc _ _, by simp, made_dns w os n HN.out _⟩
  case round =>
    clear hmk
    obtain ⟨j, hj, rfl, HM⟩ := hrel
    by_cases hlt : j < n
    · have hA := (HX.out j hlt).later HM.out.below
      obtain ⟨q, hq⟩ : ∃ q, os.getD j dn0 = q := ⟨_, rfl⟩
      rw [hq] at hA
      obtain ⟨x, y, z, u⟩ := q
      have HO := hide hq
      obtain ⟨g0, g1, g2, g3⟩ := hA
      simp only [] at g0 g1 g2 g3
      clear hq
      go_wp2_with fail
      refine (toDone x y z u wr).mono ?_
      rintro e w1 ⟨rfl, hb⟩
      have hsz := HM.out.lt
      have hrow := HM.out.row.of_block (hb.block _ hsz)
      have k0 := hrow.cell (i := j * 4) (by rw [HN.out]; omega)
      have k1 := hrow.cell (i := j * 4 + 1) (by rw [HN.out]; omega)
      have k2 := hrow.cell (i := j * 4 + 2) (by rw [HN.out]; omega)
      have k3 := hrow.cell (i := j * 4 + 3) (by rw [HN.out]; omega)
      have f0 := hrow.frozen (j * 4)
      have f1 := hrow.frozen (j * 4 + 1)
      have f2 := hrow.frozen (j * 4 + 2)
      have f3 := hrow.frozen (j * 4 + 3)
      have HS := hide (HM.out.step hb HO.out)
      clear hsz g0 g1 g2 g3 hb hrow
      go_wp2
      go_roundw
      case rel => exact ⟨j + 1, by omega, by go_num, HS.out⟩
      case measure => simp [intOf]; omega
    · have : j = n := by omega
      subst this
      go_wp2
      go_ret
      exact ⟨rfl, HM.out⟩
theorem toDn_none (ao : Option Addr) (c : Nat) (w : World) :
    Calls Tryz.prog 10 #[.slice ao 0 c] w fun e w' => e = .returned (.slice (some ⟨w.heap.size, 0, none⟩) 0 0) ∧ ToAtDn [] w 0 w' := by
  have hmk := run_make_dn 0 (by omega)
  simp only [Int.natCast_zero] at hmk
  go_enter Tryz.func10, Tryz.ntmps10
  go_wp2
  go_loopw [4] (fun i wr => i = .int .i64 0 ∧ wr = w.alloc (.cells (madeCells #[.int .i64 0, .int .i64 0, .int .i64 0, .int .i64 0] (0 * 4)) 60)) (fun _ _ => 0)
  case atStart => exact ⟨rfl, rfl⟩
  case round =>
    obtain ⟨rfl, rfl⟩ := hrel
    go_wp2
    go_ret
    exact ⟨rfl, below_alloc _ _, by simp, made_dns w [] 0 rfl _⟩
/-- 'toDoneS' of a reading. -/
theorem toDn {S : Nat → Prop} {w : World} {v : Value} {os : List Dn} (hv : RdDn S w v os) (hm : os.length ≤ 1048576) :
    Calls Tryz.prog 10 #[v] w fun e w' => ∃ u, e = .returned u ∧ Below w.heap.size w w' ∧ OwDn w.heap.size w' u os := by
  have fin : ∀ w', ToAtDn os w os.length w' → Below w.heap.size w w' ∧ OwDn w.heap.size w' (.slice (some ⟨w.heap.size, 0, none⟩) os.length os.length) os := by
    intro w' h
    refine ⟨h.below, w.heap.size, ⟨some ⟨w.heap.size, 0, none⟩, 0, rfl, by omega, fun _ => ⟨w.heap.size, 0, rfl, rfl, fun i hi => ?_⟩⟩, fun _ => ⟨Nat.le_refl _, h.lt, fun o => h.row.frozen o⟩⟩
    have a : ∀ t, t < 4 → w'.cell? ⟨w.heap.size, 0 + i * 4 + t, none⟩ = some (.int .i64 (dnC (os.getD i dn0) t)) := fun t ht => by
      have := h.row.cell (i := i * 4 + t) (by omega)
      rw [dnCell_at _ _ _ _ hi ht] at this
      rw [Nat.zero_add]; exact this
    exact ⟨by have := a 0 (by omega); rw [Nat.add_zero] at this; exact this, a 1 (by omega), a 2 (by omega), a 3 (by omega)⟩
  obtain ⟨ao, c, rfl, _, h⟩ := hv
  by_cases hne : os = []
  · subst hne
    exact (toDn_none _ _ _).mono fun e w' ⟨he, hT⟩ => ⟨_, he, fin w' hT⟩
  · obtain ⟨b, off, rfl, _, hc⟩ := h hne
    exact (toDn_cells os _ b off _ w rfl hm hc).mono fun e w' ⟨he, hT⟩ => ⟨_, he, fin w' hT⟩
end Go.Proofs.YtcmdgnemkjfckaaGreatDoor
/- Chapter 15: lists of what was done, marked. -/
namespace Go.Proofs.YtcmdgnemkjfckaaGreatDoor
open Go.RowKit

/-- What marking keeps behind j of them. -/
structure MarkAtDn (b off n : Nat) (w wr : World) : Prop where
  there : ∀ i, i < n → ∀ t, t < 4 → ∃ x, wr.cell? ⟨b, off + i * 4 + t, none⟩ = some x
  free : ∀ o, wr.frozen? ⟨b, o, none⟩ = false
  wr : Wr (· = b) w wr
theorem MarkAtDn.set {b off n : Nat} {w wr : World} (h : MarkAtDn b off n w wr) (o : Nat) (v : Value) : MarkAtDn b off n w (wr.setCell ⟨b, o, none⟩ v) := by
  refine ⟨fun i hi t ht => ?_, fun o' => by rw [World.frozen?_setCell]; exact h.free o', h.wr.trans ((Wr.refl (· = b) wr).setCell (p := ⟨b, o, none⟩) rfl v)⟩
  obtain ⟨x, hx⟩ := h.there i hi t ht
  by_cases e : o = off + i * 4 + t
  · subst e; exact ⟨_, World.cell?_setCell_same _ _ _ hx⟩
  · exact ⟨x, (World.cell?_setCell_other _ _ _ _ (by intro q; exact e (congrArg Addr.off q))).trans hx⟩

set_option maxHeartbeats 2000000 in
set_option maxRecDepth 4000 in
theorem markDn_cells (n b off c : Nat) (k : Int) (w : World) (hm : n ≤ 9223372036854775807) (hk0 : 0 ≤ k) (hk : k + 4 * (n : Int) ≤ 9223372036854775807) (h0 : MarkAtDn b off n w w) :
    Calls Tryz.prog 18 #[.slice (some ⟨b, off, none⟩) n c, .int .i64 k] w fun e w' => e = .returned (.int .i64 (k + 4 * (n : Int))) ∧ Wr (· = b) w w' := by
  have H0 := hide h0
  clear h0
  go_enter Tryz.func18, Tryz.ntmps18
  go_wp2
  go_loopw [1, 5] (fun t i wr => ∃ j : Nat, j ≤ n ∧ t = .int .i64 (k + 4 * (j : Int)) ∧ i = .int .i64 j ∧ Hid (MarkAtDn b off n w wr)) (fun _ i _ => n - (intOf i).toNat)
  case atStart => exact ⟨0, Nat.zero_le _, by simp, rfl, H0⟩
  case round =>
    obtain ⟨j, hj, rfl, rfl, HM⟩ := hrel
    by_cases hlt : j < n
    · obtain ⟨x0, g0⟩ := HM.out.there j hlt 0 (by omega)
      obtain ⟨x1, g1⟩ := HM.out.there j hlt 1 (by omega)
      obtain ⟨x2, g2⟩ := HM.out.there j hlt 2 (by omega)
      obtain ⟨x3, g3⟩ := HM.out.there j hlt 3 (by omega)
      rw [Nat.add_zero] at g0
      have f0 := HM.out.free (off + j * 4)
      have f1 := HM.out.free (off + j * 4 + 1)
      have f2 := HM.out.free (off + j * 4 + 2)
      have f3 := HM.out.free (off + j * 4 + 3)
      have HN := hide (fun v0 v1 v2 v3 => (((HM.out.set (off + j * 4) v0).set (off + j * 4 + 1) v1).set (off + j * 4 + 2) v2).set (off + j * 4 + 3) v3)
      have hkt : 0 ≤ k + 4 * (j : Int) := by omega
      have hb : k + 4 * (j : Int) + 1 + 1 + 1 + 1 ≤ 9223372036854775807 := by omega
      go_wp2
      go_roundw
      case rel => exact ⟨j + 1, by omega, by go_num, by go_num, HN.out _ _ _ _⟩
      case measure => simp [intOf]; omega
    · have : j = n := by omega
      subst this
      go_wp2
      go_ret
      exact ⟨rfl, HM.out.wr⟩
theorem markDn_none (ao : Option Addr) (c : Nat) (k : Int) (w : World) :
    Calls Tryz.prog 18 #[.slice ao 0 c, .int .i64 k] w fun e w' => e = .returned (.int .i64 k) ∧ w' = w := by
  go_enter Tryz.func18, Tryz.ntmps18
  go_wp2
  go_loopw [1, 5] (fun t i wr => t = .int .i64 k ∧ i = .int .i64 0 ∧ wr = w) (fun _ _ _ => 0)
  case atStart => exact ⟨rfl, rfl, rfl⟩
  case round =>
    obtain ⟨rfl, rfl, rfl⟩ := hrel
    go_wp2
    go_ret
    exact ⟨rfl, rfl⟩
/-- 'markDoneS' of a list in [lo, hi). -/
theorem markDnIv {lo hi : Nat} {w : World} {v : Value} {os : List Dn} {k : Int} (hv : IvDn lo hi w v os) (hk0 : 0 ≤ k) (hk : k + 4 * (os.length : Int) ≤ 9223372036854775807) :
    Calls Tryz.prog 18 #[v, .int .i64 k] w fun e w' => e = .returned (.int .i64 (k + 4 * (os.length : Int))) ∧ Wr (fun b => lo ≤ b ∧ b < hi) w w' := by
  obtain ⟨b0, ⟨ao, c, rfl, hm, h⟩, h2⟩ := hv
  by_cases hne : os = []
  · subst hne
    exact (markDn_none _ _ _ _).mono fun e w' ⟨he, hw⟩ => ⟨by simpa using he, by subst hw; exact Wr.refl _ _⟩
  · obtain ⟨b, off, rfl, rfl, hc⟩ := h hne
    obtain ⟨q1, q2, q3, q4⟩ := h2 hne
    refine (markDn_cells _ b off _ k w hm hk0 hk ⟨fun i hi t ht => ?_, q4, Wr.refl _ _⟩).mono fun e w' ⟨he, hM⟩ => ⟨he, hM.mono fun x hx => by subst hx; exact ⟨q1, q2⟩⟩
    obtain ⟨c0, c1, c2, c3⟩ := hc i hi
    match t, ht with
    | 0, _ => exact ⟨_, c0⟩
    | 1, _ => exact ⟨_, c1⟩
    | 2, _ => exact ⟨_, c2⟩
    | 3, _ => exact ⟨_, c3⟩
end Go.Proofs.YtcmdgnemkjfckaaGreatDoor
