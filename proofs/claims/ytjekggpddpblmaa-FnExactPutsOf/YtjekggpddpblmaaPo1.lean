/- Chapter 5: the codes that PutsOf asks, the program's side, walked. -/
import Derived.Test.YtjekggpddpblmaaApplyI
import Derived.Test.YtjekggpddpblmaaObS
import Derived.Test.YtjekggpddpblmaaObj1
namespace Go.Proofs.Ytjekggpddpblmaa
open Go.RowKit Go.Maps

/-- The code of a view; the code of a list of objects. -/
def vF (vs : List (Int × List Int)) : Int := if hpF 60 vs = 0 then (if isVw vs then 0 else 1) else hpF 60 vs
def firstJ : List Oj → Int
  | [] => 0
  | o :: r => if objF o.1 o.2.1 o.2.2 = 0 then firstJ r else objF o.1 o.2.1 o.2.2
def ojsF (os : List Oj) : Int := if 12 < os.length then 2 else firstJ os
theorem firstJ_drop (os : List Oj) (k : Nat) (h : k < os.length) : firstJ (os.drop k) = if objF (os.getD k oj0).1 (os.getD k oj0).2.1 (os.getD k oj0).2.2 = 0 then firstJ (os.drop (k + 1)) else objF (os.getD k oj0).1 (os.getD k oj0).2.1 (os.getD k oj0).2.2 := by
  rw [List.drop_eq_getElem_cons h, firstJ]
  have e : os.getD k oj0 = os[k] := by simp [List.getD, h]
  rw [e]
theorem firstJ_all : ∀ {os : List Oj}, firstJ os = 0 → ∀ i, i < os.length → objF (os.getD i oj0).1 (os.getD i oj0).2.1 (os.getD i oj0).2.2 = 0
  | [], _, i, hi => absurd hi (Nat.not_lt_zero _)
  | o :: r, h, i, hi => by
    rw [firstJ] at h
    by_cases e : objF o.1 o.2.1 o.2.2 = 0
    · rw [if_pos e] at h
      cases i with
      | zero => exact e
      | succ i => simpa using firstJ_all h i (by simpa using hi)
    · rw [if_neg e] at h; exact absurd h e
theorem RdJ.at {S : Nat → Prop} {w : World} {ao : Option Addr} {n c k : Nat} {os : List Oj} (h : RdJ S w (.slice ao n c) os) (hk : k < os.length) :
    ∃ b off v, ao = some ⟨b, off, none⟩ ∧ w.cell? ⟨b, off + k * 3, none⟩ = some (.int .i64 (os.getD k oj0).1) ∧ w.cell? ⟨b, off + k * 3 + 1, none⟩ = some (.int .i64 (os.getD k oj0).2.1) ∧ w.cell? ⟨b, off + k * 3 + 2, none⟩ = some v ∧ RdI S w v (os.getD k oj0).2.2 := by
  obtain ⟨ao', c', e, _, h3⟩ := h
  injection e with e1 e2 e3
  subst e1
  obtain ⟨b, off, V, e, _, hc⟩ := h3 (by rintro rfl; exact absurd hk (Nat.not_lt_zero _))
  obtain ⟨k0, k1, k2, k3⟩ := hc k hk
  exact ⟨b, off, V k, e, k0, k1, k2, k3⟩

theorem viewFaultP {S : Nat → Prop} {w : World} {u : Value} {vs : List (Int × List Int)} (hu : RdP S w u vs) :
    Calls Try.prog 26 #[u] w fun e w' => e = .returned (.int .i64 (vF vs)) ∧ Below w.heap.size w w' := by
  obtain ⟨au, cu, rfl, _⟩ := hu.shape
  have HU := hide (homePutsFault 60 hu)
  have HI := hide (fun (w' : World) (hb : Below w.heap.size w w') => isViewP (hu.later hb))
  have HV : Hid (vF vs = if hpF 60 vs = 0 then (if isVw vs then 0 else 1) else hpF 60 vs) := rfl
  clear hu
  generalize hpF 60 vs = p at HU HV
  generalize vF vs = C at HV ⊢
  by_cases h0 : p = 0
  · subst h0
    go_enter Try.func26, Try.ntmps26
    go_wp2_with fail
    refine HU.out.mono ?_
    rintro e w1 ⟨rfl, hb1⟩
    have HB1 := hide hb1
    clear hb1
    go_wp2_with fail
    refine (HI.out _ HB1.out).mono ?_
    rintro e w2 ⟨⟨r, rfl, hr⟩, hb2⟩
    have HB2 := hide (below_on HB1.out hb2)
    have HRr := hide hr
    clear hb2 hr
    cases r with
    | true =>
      have hC : C = 0 := by have h := HV.out; have h2 := HRr.out.1 rfl; simpa [h2] using h
      subst hC
      clear HRr
      go_wp2
      go_ret
      exact ⟨rfl, HB2.out⟩
    | false =>
      have hC : C = 1 := by have h := HV.out; have h2 : ¬ isVw vs := fun h => (by have := HRr.out.2 h; cases this); simpa [h2] using h
      subst hC
      clear HRr
      go_wp2
      go_ret
      exact ⟨rfl, HB2.out⟩
  · have hC : C = p := by rw [HV.out, if_neg h0]
    subst hC
    go_enter Try.func26, Try.ntmps26
    go_wp2_with fail
    refine HU.out.mono ?_
    rintro e w1 ⟨rfl, hb1⟩
    have HB1 := hide hb1
    clear hb1
    go_wp2
    go_ret
    exact ⟨rfl, HB1.out⟩

set_option maxHeartbeats 2000000 in
set_option maxRecDepth 4000 in
theorem objectsFaultJ {S : Nat → Prop} {w : World} {u : Value} {os : List Oj} (hu : RdJ S w u os) :
    Calls Try.prog 27 #[u] w fun e w' => e = .returned (.int .i64 (ojsF os)) ∧ Below w.heap.size w w' := by
  obtain ⟨au, cu, rfl, hml⟩ := hu.shape
  have HU := hide hu
  have HD := hide (firstJ_drop os)
  have HE : Hid (ojsF os = if 12 < os.length then 2 else firstJ os) := rfl
  obtain ⟨n, hn⟩ : ∃ n, os.length = n := ⟨_, rfl⟩
  have HN := hide hn
  have HD0 : Hid (firstJ os = firstJ (os.drop 0)) := by rw [Hid, List.drop_zero]
  have HDn : Hid (firstJ (os.drop n) = 0) := by rw [Hid, ← hn, List.drop_length]; rfl
  rw [hn] at HU HD HE hml ⊢
  clear hu hn
  generalize ojsF os = C at HE ⊢
  generalize firstJ os = F0 at HE HD0
  obtain ⟨FD, hFD⟩ : ∃ FD : Nat → Int, (fun k => firstJ (os.drop k)) = FD := ⟨_, rfl⟩
  have HFs : Hid (∀ k, k < n → FD k = if objF (os.getD k oj0).1 (os.getD k oj0).2.1 (os.getD k oj0).2.2 = 0 then FD (k + 1) else objF (os.getD k oj0).1 (os.getD k oj0).2.1 (os.getD k oj0).2.2) := fun k hk => by rw [← hFD]; exact HD.out k hk
  have HF0 : Hid (F0 = FD 0) := by rw [← hFD]; exact HD0.out
  have HFn : Hid (FD n = 0) := by rw [← hFD]; exact HDn.out
  clear hFD HD HD0 HDn
  by_cases hbig : 12 < n
  · have hC : C = 2 := by rw [HE.out, if_pos hbig]
    subst hC
    have hb' : (12 : Int) < (n : Int) := by omega
    go_enter Try.func27, Try.ntmps27
    go_wp2
    go_ret
    exact ⟨rfl, Below.refl _ _⟩
  · have hC : C = FD 0 := by rw [HE.out, if_neg hbig]; exact HF0.out
    subst hC
    have hb' : ¬ (12 : Int) < (n : Int) := by omega
    obtain ⟨C, hC⟩ : ∃ C, FD 0 = C := ⟨_, rfl⟩
    have HC := hide hC
    rw [hC]
    clear hC
    go_enter Try.func27, Try.ntmps27
    go_wp2
    go_loopw [11] (fun i wr => ∃ k : Nat, k ≤ n ∧ i = .int .i64 (k : Int) ∧ Hid (FD k = C) ∧ Hid (Below w.heap.size w wr)) (fun i _ => n - (RowKit.intOf i).toNat)
    case atStart => exact ⟨0, Nat.zero_le _, rfl, HC.out, Below.refl _ _⟩
    case round =>
      obtain ⟨k, hk, rfl, HK, HB⟩ := hrel
      clear HC HE HF0
      by_cases hlt : k < n
      · obtain ⟨b, off, v, rfl, q0, q1, q2, q3⟩ := HU.out.at (k := k) (by rw [HN.out]; exact hlt)
        obtain ⟨a3, c3, rfl⟩ := q3.shape
        have g0 := cell_later HB.out q0
        have g1 := cell_later HB.out q1
        have g2 := cell_later HB.out q2
        have R := hide (q3.later HB.out)
        have HSu := hide (HFs.out k hlt)
        obtain ⟨p, hp⟩ : ∃ p, os.getD k oj0 = p := ⟨_, rfl⟩
        rw [hp] at g0 g1 g2 R HSu
        obtain ⟨a, f, xs⟩ := p
        dsimp only at g0 g1 g2 R HSu
        have HOf := hide (fun (w' : World) (hb : Below wr.heap.size wr w') => implObjectFault a f (R.out.later hb))
        obtain ⟨l, hl⟩ : ∃ l, xs.length = l := ⟨_, rfl⟩
        rw [hl] at g2 R HOf
        generalize objF a f xs = z at HSu HOf
        clear q0 q1 q2 q3 hp hl
        have bA := hide (below_alloc wr (.cells #[.int .i64 a, .int .i64 f, .slice a3 l c3] 49))
        go_wp2_with fail
        refine (HOf.out _ bA.out).mono ?_
        rintro e w2 ⟨rfl, hb2⟩
        have HB2 := hide (below_on (below_on HB.out bA.out) hb2)
        clear hb2
        by_cases hz : z = 0
        · subst hz
          have HKn : Hid (FD (k + 1) = C) := by rw [Hid, ← HK.out]; have h := HSu.out; simpa using h.symm
          clear HSu HK
          go_wp2
          go_roundw
          case rel => exact ⟨k + 1, hlt, by go_num, HKn.out, HB2.out⟩
          case measure => simp [RowKit.intOf]; omega
        · have hzC : z = C := by rw [← HK.out, HSu.out, if_neg hz]
          subst hzC
          clear HSu HK
          go_wp2
          go_ret
          exact ⟨rfl, HB2.out⟩
      · have hkn : k = n := by omega
        subst hkn
        have hC0 : C = 0 := by rw [← HK.out]; exact HFn.out
        subst hC0
        go_wp2
        go_ret
        exact ⟨rfl, HB.out⟩
end Go.Proofs.Ytjekggpddpblmaa
