/- View Apply ApplyM ApplyI Po1 Df0 in one text: what each says stands at its head below. -/
import Derived.Test.YtlmaopljihbdkaaGreatG18
import Derived.Test.YtlmaopljihbdkaaGreatG31
import Derived.Test.YtlmaopljihbdkaaGreatG12
import Derived.Test.YtlmaopljihbdkaaGreatG11
import Derived.Shelf.SortM.Plain
import Derived.Shelf.SortM.SortNone
import Derived.Deep.AppendLies
import Derived.Test.YtlmaopljihbdkaaGreatG19
import Derived.Test.YtlmaopljihbdkaaGreatG05
import Derived.Carry
namespace Go.Proofs.YtlmaopljihbdkaaGreat
open Go.RowKit Go.Maps Go.Sort Go.Shelf
theorem Tryz.sorts (m : Nat) : AnyZI.SortsIn Tryz.prog Tryz.sortedA_ren Fence.wide m :=
  have _ : (152 : Nat) = 152 := rfl
  ⟨fun blk off cap ss W hH hblk hsz => callsIn_wide.2 (AnyM.slices_Sort_int Tryz.sortA blk off cap ss W hH hblk hsz),
   fun p cap W => callsIn_wide.2 (AnyM.slices_Sort_int_none Tryz.sortA p cap W)⟩
theorem keysOf (B : Nat) (W : World) : Calls Tryz.prog 153 #[.map (some B)] W fun e w' => e = .returned (.func (.func 188) #[] #[.pointer (some ⟨W.heap.size, 0, none⟩)]) ∧ w' = W.alloc (.cells #[.map (some B)] 93) :=
  (callsIn_wide (n := 5)).1 (AnyZI.keys_in Tryz.keysA Fence.wide 5 trivial rfl (some B) W)
theorem sortedOf {w : World} {B nn : Nat} {D0 : DataW Value} (hown : w.ownsMap Tryz.prog 2 asIs B nn D0) (hnn : nn ≤ 1048576) :
    Calls Tryz.prog 152 #[.func (.func 188) #[] #[.pointer (some ⟨w.heap.size, 0, none⟩)]] (w.alloc (.cells #[.map (some B)] 93)) fun e w' => ∃ (v : Value) (ss : List Int), e = .returned v ∧ ss.Perm (intKeys D0) ∧
      w'.ownsRow (w.heap.size + 1) 2 1 v ss.length ((ss.mergeSort leI).map (Value.int .i64)) ∧ Below w.heap.size w w' := by
  have hbl := hown.lt
  have hsz := hown.size_le
  have hseq : SeqGives Fence.wide 2 Tryz.prog 188 #[.pointer (some ⟨w.heap.size, 0, none⟩)] encZ (fun ss => ss.Perm (intKeys D0)) (Maps.size D0) (w.alloc (.cells #[.map (some B)] 93)) :=
    AnyZI.keys_gives (ρ := Tryz.keysA_ren) { Tryz.keysA with } Fence.wide _ trivial rfl (by omega) w.heap.size B nn D0 _ (by simp) (by simp) (by
      obtain ⟨es, clock, hb, Ft, hs, hD⟩ := hown
      exact ⟨es, clock, (Below.heap_alloc _ _ B hbl).trans hb, Ft, hs, hD⟩)
  have cS := AnyZI.sorted_in Tryz.sortedA Fence.wide 5 trivial trivial trivial trivial rfl (by omega) (Tryz.sorts _) (enters_of Tryz.func175 (by kernel_rfl) rfl) 188 #[.pointer (some ⟨w.heap.size, 0, none⟩)] trivial (enters_of Tryz.func188 (by kernel_rfl) rfl) _ _ (by unfold maxLen; omega) (by omega) _ hseq
  change CallsIn _ _ Tryz.prog 152 _ _ _ at cS
  refine ((callsIn_wide (n := 5)).1 cS).mono ?_
  rintro e w' ⟨v, ss, rfl, hS, hrow, hnil, hb⟩
  exact ⟨v, ss, rfl, hS, by have h := hrow; rw [World.size_alloc] at h; exact h, (below_alloc w _).trans (hb.mono (by simp))⟩
def keysTo (M : Int → List Int) (k : Nat) : List Int := ((List.range k).map fun (i : Nat) => (i : Int)).filter fun a => decide (M a ≠ [])
def viewTo (M : Int → List Int) (k : Nat) : List (Int × List Int) := (keysTo M k).map fun a => (a, M a)
theorem keysTo_succ (M : Int → List Int) (k : Nat) : keysTo M (k + 1) = keysTo M k ++ if M (k : Int) = [] then [] else [(k : Int)] := by
  unfold keysTo
  rw [List.range_succ, List.map_append, List.filter_append]
  by_cases h : M (k : Int) = []
  · simp [h]
  · simp [h]
theorem viewTo_succ (M : Int → List Int) (k : Nat) : viewTo M (k + 1) = viewTo M k ++ if M (k : Int) = [] then [] else [((k : Int), M (k : Int))] := by
  unfold viewTo
  rw [keysTo_succ, List.map_append]
  by_cases h : M (k : Int) = []
  · simp [h]
  · simp [h]
theorem keysTo_mem (M : Int → List Int) (k : Nat) (a : Int) : a ∈ keysTo M k ↔ 0 ≤ a ∧ a < (k : Int) ∧ M a ≠ [] := by
  unfold keysTo
  rw [List.mem_filter, List.mem_map]
  constructor
  · rintro ⟨⟨i, hi, rfl⟩, h⟩
    rw [List.mem_range] at hi
    exact ⟨by omega, by omega, by simpa using h⟩
  · rintro ⟨h1, h2, h3⟩
    exact ⟨⟨a.toNat, List.mem_range.2 (by omega), by omega⟩, by simpa using h3⟩
theorem keysTo_lt (M : Int → List Int) (k : Nat) : (keysTo M k).Pairwise (· < ·) := by
  induction k with
  | zero => simp [keysTo]
  | succ k ih =>
    rw [keysTo_succ]
    by_cases h : M (k : Int) = []
    · simpa [h] using ih
    · simp only [h, if_false]
      refine List.pairwise_append.2 ⟨ih, by simp, fun a ha b hb => ?_⟩
      simp at hb
      subst hb
      exact ((keysTo_mem M k a).1 ha).2.1
theorem keysTo_len (M : Int → List Int) (k : Nat) : (keysTo M k).length ≤ k := by
  unfold keysTo
  refine Nat.le_trans (List.length_filter_le _ _) ?_
  simp
theorem keys_sorted {w : World} {B nn : Nat} {D0 : DataW Value} {M : Int → List Int} {ss : List Int} (hown : w.ownsMap Tryz.prog 2 asIs B nn D0) (hk : ∀ a : Int, has D0 (.int .i64 a) = true ↔ 0 ≤ a ∧ a < 40 ∧ M a ≠ []) (hp : ss.Perm (intKeys D0)) : ss.mergeSort leI = keysTo M 40 := by
  have hlt := keysTo_lt M 40
  have h1 : (keysTo M 40).Perm (intKeys D0) := CollectedI.perm (left := fun _ => false) ⟨hlt.imp (fun h => by omega), fun x => by rw [keysTo_mem, hk x]; simp⟩ hown lawI64 Tryz.underlying2 (fun _ => rfl)
  rw [mergeSort_of_perm_i (hp.trans h1.symm)]
  exact List.mergeSort_of_pairwise (hlt.imp (fun h => by simp [leI]; omega))
set_option maxHeartbeats 2000000 in
set_option maxRecDepth 4000 in
theorem seenView {w : World} {B n : Nat} {M : Int → List Int} (hs : SeenAt w B n M) (hn : n ≤ 1048576) (hl : ∀ a : Int, 0 ≤ a → a < 40 → (M a).length ≤ 1048576) :
    Calls Tryz.prog 111 #[.map (some B)] w fun e w' => ∃ z, e = .returned z ∧ Below w.heap.size w w' ∧ OwP (fun b => w.heap.size ≤ b ∧ b < w'.heap.size) w' z (viewTo M 40) := by
  have HS := hide hs
  obtain ⟨D, hown, hD, hK⟩ := hs
  obtain ⟨i0, hi, hz0, hz1, hz2⟩ := info_parts Tryz.infoPut
  have HSo := hide (sortedOf hown hn)
  have HKs := hide (fun ss => keys_sorted (ss := ss) hown hK)
  have HLn := hide hl
  have HKm := hide (keysTo_mem M 40)
  have HVl : Hid ((viewTo M 40).length = (keysTo M 40).length) := by simp [Hid, viewTo]
  have HVa : Hid (∀ i, i < (keysTo M 40).length → (viewTo M 40).getD i (0, []) = ((keysTo M 40).getD i 0, M ((keysTo M 40).getD i 0))) := fun i hi => by simp [viewTo, List.getD, hi]
  have HL40 := hide (keysTo_len M 40)
  obtain ⟨L, hL⟩ : ∃ L, viewTo M 40 = L := ⟨_, rfl⟩
  obtain ⟨K, hKK⟩ : ∃ K, keysTo M 40 = K := ⟨_, rfl⟩
  rw [hL] at HVl HVa ⊢
  rw [hKK] at HKs HKm HVl HVa HL40
  obtain ⟨m, hm⟩ : ∃ m, K.length = m := ⟨_, rfl⟩
  have HM := hide hm
  rw [hm] at HVl HVa HL40
  have hm40 : m ≤ 40 := HL40.out
  clear hown hD hK hl hL hKK hm HL40
  go_enter Tryz.func111, Tryz.ntmps111
  go_wp2_with fail
  refine (keysOf B w).mono ?_
  rintro e w1 ⟨rfl, rfl⟩
  go_wp2_with fail
  refine HSo.out.mono ?_
  rintro e w2 ⟨v, ss, rfl, hp, hrow, hb⟩
  have hss := HKs.out ss hp
  have hsl : ss.length = m := by rw [← List.length_mergeSort (le := leI) ss, hss]; exact HM.out
  rw [hss, hsl] at hrow
  have HR : Hid (RdI (fun b => b < w2.heap.size) w2 v K) := by
    have h := ow_of_owns HM.out hrow (by rw [HM.out]; omega)
    exact RdI.narrow h.rd (fun _ b hb => hb.2)
  obtain ⟨av, cv, rfl⟩ : ∃ av cv, v = .slice av m cv := by
    obtain ⟨av, cv, h⟩ := HR.out.shape
    rw [HM.out] at h
    exact ⟨av, cv, h⟩
  have HB2 := hide hb
  have HS2 := hide (HS.out.later hb)
  clear hp hrow hb hss hsl HSo HKs HS
  go_wp2
  go_loopw [3, 10] (fun v i wr => ∃ k : Nat, k ≤ m ∧ i = .int .i64 k ∧ Hid (BuiltP (w2.heap.size ≤ ·) wr v k L) ∧ Hid (Below w2.heap.size w2 wr)) (fun _ i _ => m - (RowKit.intOf i).toNat)
  case atStart => exact ⟨0, Nat.zero_le _, rfl, BuiltP.nil _ _ _, Below.refl _ _⟩
  case round =>
    obtain ⟨k, hk, rfl, HBu, HB⟩ := hrel
    by_cases hlt : k < m
    · obtain ⟨b, off, rfl, hx⟩ := (HR.out).at (k := k) (by rw [HM.out]; exact hlt)
      have hx' := cell_later HB.out hx
      have hmem : K.getD k 0 ∈ K := by
        have h : k < K.length := by rw [HM.out]; exact hlt
        simp [List.getD, h]
      obtain ⟨ha1, ha2, _⟩ := (HKm.out _).1 hmem
      have HX := hide (HVa.out k hlt)
      obtain ⟨a, ha⟩ : ∃ a, K.getD k 0 = a := ⟨_, rfl⟩
      rw [ha] at hx' HX ha1 ha2
      have ha2' : a < 40 := by omega
      have hkey : Hid (keyOf Tryz.prog 2 (.int .i64 a) = some (.int .i64 a)) := keyOf_int_mk Tryz.underlying2 (WalkArith.wf_i64 (by omega))
      obtain ⟨D', hown, hD, _⟩ := HS2.out.later HB.out
      obtain ⟨v3, hat, hr3⟩ := hD a ha1 ha2'
      obtain ⟨v', p', hrun, hv'⟩ := hown.lookup lawI64 Tryz.underlying93 (zeroWords wr) (zd := .held (.slice none 0 0)) (zp := []) rfl hkey.out
      have hvv : v' = v3 := by
        rw [hat] at hv'
        injection hv' with h1
        injection h1 with h2
        injection h2
      subst hvv
      obtain ⟨a3, k3, rfl⟩ := hr3.shape
      have HCp := hide (copyWords hr3 (HLn.out a ha1 ha2'))
      obtain ⟨ws, hws⟩ : ∃ ws, M a = ws := ⟨_, rfl⟩
      rw [hws] at HCp HX hrun hr3
      obtain ⟨V2, Bk2, hown2, hpr, hin⟩ := HBu.out
      have HOw0 := hide hown2
      have HPr := hide hpr
      have HIn := hide hin
      have hz := HB.out.size
      clear hx hmem ha hD hown hat hv' hr3 hws hown2 hpr hin
      go_wp2_with fail
      refine HCp.out.mono ?_
      rintro e w3 ⟨z3, rfl, hb3, ho3⟩
      obtain ⟨ao4, c4, rfl⟩ := ho3.shape
      have HB1 := hide hb3
      have HO1 := hide ho3
      have hzz := hb3.size
      clear hb3 ho3 hrun
      go_wp2_with (at_builtin; refine wpList_append_lies _ rfl _ _ _ rfl 0 74 i0 (.agg #[.int .i64 0, .slice none 0 0]) 2 32 Tryz.underlying27 hi hz0 hz1 hz2 rfl (by omega) _ k _ (by rfl) (ownsRow_later (ownsRow_later HOw0.out HB1.out) (below_alloc w3 (.cells #[.int .i64 a, .slice ao4 ws.length c4] 74))) ⟨w3.heap.size, 0, none⟩ 1 1 [.int .i64 a, .slice ao4 ws.length c4] (by rfl) (by rfl) (World.news_of_block (cs := #[.int .i64 a, .slice ao4 ws.length c4]) (t := 74) (fr := (0, 0)) (heap_alloc_new w3 _)) cells2_one (by omega) (by unfold maxLen; omega) (by omega) (Nat.zero_le _) (w3.heap.size + 1) (by simp) ?_)
      intro g cap w4 hown3 hgrow hat hlt3
      have HSt := hide (BuiltP.step (P' := (w2.heap.size ≤ ·)) (ps := L) HIn.out HOw0.out HPr.out (fun _ h => h) (fun b hb => Nat.le_trans hz hb) HB1.out (by rw [HX.out]; exact HO1.out) (below_alloc w3 (.cells #[.int .i64 a, .slice ao4 ws.length c4] 74)) (by rw [HX.out]; exact hown3) hgrow (by simpa using hat))
      have HB3 := hide ((below_on (below_on HB.out HB1.out) (below_alloc w3 (.cells #[.int .i64 a, .slice ao4 ws.length c4] 74))).grown hgrow (by simp; omega) (fun r hr => HPr.out r hr))
      clear hown3 hgrow hat hlt3
      go_wp2
      go_roundw
      case rel => exact ⟨k + 1, hlt, by go_num, HSt.out, HB3.out⟩
      case measure => simp [RowKit.intOf]; omega
    · have hkn : k = m := by omega
      subst hkn
      go_wp2
      go_ret
      exact ⟨_, rfl, below_on HB2.out HB.out, (HBu.out.ow HVl.out (by omega)).mono (fun b hb => ⟨by have := HB2.out.size; have := hb.1; omega, hb.2⟩)⟩
end Go.Proofs.YtlmaopljihbdkaaGreat
namespace Go.Proofs.YtlmaopljihbdkaaGreat
open Go.RowKit Go.Maps
def isVw (ps : List (Int × List Int)) : Prop := ∀ i, i < ps.length → (ps.getD i (0, [])).2 ≠ [] ∧ (0 < i → (ps.getD (i - 1) (0, [])).1 < (ps.getD i (0, [])).1)
set_option maxHeartbeats 2000000 in
set_option maxRecDepth 4000 in
theorem isViewP {S : Nat → Prop} {w : World} {u : Value} {ps : List (Int × List Int)} (hu : RdP S w u ps) :
    Calls Tryz.prog 97 #[u] w fun e w' => (∃ r : Bool, e = .returned (.bool r) ∧ (r = true ↔ isVw ps)) ∧ Below w.heap.size w w' := by
  obtain ⟨au, cu, rfl, hml⟩ := hu.shape
  have HU := hide hu
  obtain ⟨n, hn⟩ : ∃ n, ps.length = n := ⟨_, rfl⟩
  have HN := hide hn
  rw [hn] at HU hml ⊢
  clear hu hn
  go_enter Tryz.func97, Tryz.ntmps97
  go_wp2
  go_loopw [7] (fun i wr => ∃ k : Nat, k ≤ n ∧ i = .int .i64 (k : Int) ∧ Hid (∀ i, i < k → (ps.getD i (0, [])).2 ≠ [] ∧ (0 < i → (ps.getD (i - 1) (0, [])).1 < (ps.getD i (0, [])).1)) ∧ Hid (Below w.heap.size w wr)) (fun i _ => n - (RowKit.intOf i).toNat)
  case atStart => exact ⟨0, Nat.zero_le _, rfl, fun i hi => absurd hi (Nat.not_lt_zero _), Below.refl _ _⟩
  case round =>
    obtain ⟨k, hk, rfl, HA, HB⟩ := hrel
    by_cases hlt : k < n
    · obtain ⟨b, off, V, rfl, q1, q2, q3⟩ := HU.out.at (k := k) (by rw [HN.out]; exact hlt)
      obtain ⟨a3, c3, rfl⟩ := q3.shape
      have g1 := cell_later HB.out q1
      have g2 := cell_later HB.out q2
      obtain ⟨x, hx⟩ : ∃ x, (ps.getD k (0, [])).1 = x := ⟨_, rfl⟩
      obtain ⟨l, hl⟩ : ∃ l, (ps.getD k (0, [])).2.length = l := ⟨_, rfl⟩
      rw [hx] at g1
      rw [hl] at g2
      have HX := hide hx
      have HL := hide hl
      clear q1 q2 q3 hx hl
      have hnw : w.heap.size ≤ wr.heap.size := HB.out.size
      have bA := hide (below_alloc wr (.cells #[.int .i64 x, .slice a3 l c3] 74))
      by_cases hl0 : l = 0
      · subst hl0
        have HNo : Hid (¬ isVw ps) := fun h => (h k (by rw [HN.out]; exact hlt)).1 (List.eq_nil_of_length_eq_zero HL.out)
        go_wp2_with fail
        go_quiet (fail)
        have HBq := hide (below_on (below_on HB.out bA.out) (below_drewN _ nq))
        go_wp2
        go_ret
        exact ⟨⟨false, rfl, ⟨fun h => (by cases h), fun h => absurd h HNo.out⟩⟩, HBq.out⟩
      · have hl0' : ¬ ((l : Int) = 0) := by omega
        have hl0b : ((l : Int) == 0) = false := by simpa using hl0
        have HNe : Hid ((ps.getD k (0, [])).2 ≠ []) := fun h => hl0 (by rw [← HL.out, h]; rfl)
        by_cases hk0 : k = 0
        · subst hk0
          have g1' : wr.cell? ⟨b, off, none⟩ = some (.int .i64 x) := by simpa using g1
          have g2' : wr.cell? ⟨b, off + 1, none⟩ = some (.slice a3 l c3) := by simpa using g2
          clear g1 g2
          have HA' : Hid (∀ i, i < 0 + 1 → (ps.getD i (0, [])).2 ≠ [] ∧ (0 < i → (ps.getD (i - 1) (0, [])).1 < (ps.getD i (0, [])).1)) := fun i hi => by
            have : i = 0 := by omega
            subst this
            exact ⟨HNe.out, fun h => absurd h (Nat.lt_irrefl _)⟩
          go_wp2_with fail
          go_quiet (fail)
          have HBq := hide (below_on (below_on HB.out bA.out) (below_drewN _ nq))
          go_wp2
          go_roundw
          case rel => exact ⟨0 + 1, by omega, by go_num, HA'.out, HBq.out⟩
          case measure => simp [RowKit.intOf]; omega
        · have hkp : 0 < k := by omega
          obtain ⟨j, hjk⟩ : ∃ j, k = j + 1 := ⟨k - 1, by omega⟩
          obtain ⟨b', off', V', e', q1', _, _⟩ := HU.out.at (k := j) (by rw [HN.out]; omega)
          injection e' with e'
          injection e' with e1 e2
          subst e1 e2
          have g0 := cell_later (below_on HB.out bA.out) q1'
          obtain ⟨y, hy⟩ : ∃ y, (ps.getD j (0, [])).1 = y := ⟨_, rfl⟩
          rw [hy] at g0
          have HY := hide hy
          clear hy q1'
          have hw1 : IntKind.i64.wrap ((k : Int) - 1) = (j : Int) := by simp [IntKind.wrap, IntKind.bits, IntKind.signed]; omega
          have hj0 : (0 : Int) < (k : Int) := by omega
          have hjp : (0 : Int) ≤ (j : Int) := by omega
          have hjn : (j : Int) < (n : Int) := by omega
          have HJK := hide hjk
          clear hk0 hjk
          by_cases hxy : x ≤ y
          · have HNo : Hid (¬ isVw ps) := fun h => by
              have := (h k (by rw [HN.out]; exact hlt)).2 (by have := HJK.out; omega)
              rw [HX.out, show k - 1 = j by have := HJK.out; omega, HY.out] at this
              omega
            go_wp2_with fail
            go_quiet (fail)
            have HBq := hide (below_on (below_on HB.out bA.out) (below_drewN _ nq))
            go_wp2
            go_ret
            exact ⟨⟨false, rfl, ⟨fun h => (by cases h), fun h => absurd h HNo.out⟩⟩, HBq.out⟩
          · have hxy' : y < x := by omega
            have HA' : Hid (∀ i, i < k + 1 → (ps.getD i (0, [])).2 ≠ [] ∧ (0 < i → (ps.getD (i - 1) (0, [])).1 < (ps.getD i (0, [])).1)) := fun i hi => by
              by_cases e : i = k
              · subst e
                exact ⟨HNe.out, fun _ => by rw [HX.out, show i - 1 = j by have := HJK.out; omega, HY.out]; exact hxy'⟩
              · exact HA.out i (by omega)
            go_wp2_with fail
            go_quiet (fail)
            have HBq := hide (below_on (below_on HB.out bA.out) (below_drewN _ nq))
            go_wp2
            go_roundw
            case rel => exact ⟨k + 1, by omega, by go_num, HA'.out, HBq.out⟩
            case measure => simp [RowKit.intOf]; omega
    · have hkn : k = n := by omega
      subst hkn
      have HYes : Hid (isVw ps) := fun i hi => HA.out i (by rw [HN.out] at hi; exact hi)
      go_wp2
      go_ret
      exact ⟨⟨true, rfl, ⟨fun _ => HYes.out, fun _ => rfl⟩⟩, HB.out⟩
end Go.Proofs.YtlmaopljihbdkaaGreat
namespace Go.Proofs.YtlmaopljihbdkaaGreat
open Go.Maps
theorem firstP_all {n : Nat} {ps : List (Int × List Int)} (h : firstP n ps = 0) : ∀ i, i < ps.length → 0 ≤ (ps.getD i (0, [])).1 ∧ (ps.getD i (0, [])).1 < (n : Int) ∧ wordsF (ps.getD i (0, [])).2 = 0 := by
  have key : ∀ k, k ≤ ps.length → firstP n (ps.drop k) = 0 ∧ ∀ i, i < k → 0 ≤ (ps.getD i (0, [])).1 ∧ (ps.getD i (0, [])).1 < (n : Int) ∧ wordsF (ps.getD i (0, [])).2 = 0 := by
    intro k
    induction k with
    | zero => intro _; exact ⟨by simpa using h, fun i hi => absurd hi (Nat.not_lt_zero _)⟩
    | succ k ih =>
      intro hk
      obtain ⟨h1, h2⟩ := ih (by omega)
      by_cases ha : 0 ≤ (ps.getD k (0, [])).1 ∧ (ps.getD k (0, [])).1 < (n : Int)
      · by_cases hw : wordsF (ps.getD k (0, [])).2 = 0
        · rw [firstP_ok (by omega) ha hw] at h1
          refine ⟨h1, fun i hi => ?_⟩
          by_cases e : i = k
          · subst e; exact ⟨ha.1, ha.2, hw⟩
          · exact h2 i (by omega)
        · rw [firstP_no (by omega) ha hw] at h1
          exact absurd h1 hw
      · rw [firstP_at (by omega) ha] at h1
        exact absurd h1 (by decide)
  exact fun i hi => (key ps.length (Nat.le_refl _)).2 i hi
theorem hpF_all {most : Nat} {ps : List (Int × List Int)} (h : hpF most ps = 0) : ps.length ≤ most ∧ ∀ i, i < ps.length → 0 ≤ (ps.getD i (0, [])).1 ∧ (ps.getD i (0, [])).1 < 40 ∧ (ps.getD i (0, [])).2.length ≤ 64 := by
  unfold hpF at h
  split at h
  · exact absurd h (by decide)
  · rename_i h1
    refine ⟨by omega, fun i hi => ?_⟩
    obtain ⟨a, b, c⟩ := firstP_all h i hi
    refine ⟨a, b, ?_⟩
    by_cases h64 : 64 < (ps.getD i (0, [])).2.length
    · unfold wordsF at c
      rw [wF_many h64] at c
      exact absurd c (by decide)
    · omega
theorem view_mem (M : Int → List Int) (k : Nat) (x : Int × List Int) : x ∈ viewTo M k ↔ 0 ≤ x.1 ∧ x.1 < (k : Int) ∧ x.2 ≠ [] ∧ x.2 = M x.1 := by
  unfold viewTo
  rw [List.mem_map]
  constructor
  · rintro ⟨a, ha, rfl⟩
    obtain ⟨h1, h2, h3⟩ := (keysTo_mem M k a).1 ha
    exact ⟨h1, h2, h3, rfl⟩
  · rintro ⟨h1, h2, h3, h4⟩
    exact ⟨x.1, (keysTo_mem M k x.1).2 ⟨h1, h2, by rw [← h4]; exact h3⟩, by rw [← h4]⟩
theorem view_lt (M : Int → List Int) (k : Nat) : (viewTo M k).Pairwise fun a b => a.1 < b.1 := List.pairwise_map.2 (keysTo_lt M k)
theorem rising_eq {l m : List (Int × List Int)} (h1 : l.Pairwise fun a b => a.1 < b.1) (h2 : m.Pairwise fun a b => a.1 < b.1) (h : ∀ x, x ∈ l ↔ x ∈ m) : l = m := by
  have nd : ∀ {l : List (Int × List Int)}, (l.Pairwise fun a b => a.1 < b.1) → l.Nodup := fun h => h.imp (fun h e => by rw [e] at h; omega)
  exact List.Perm.eq_of_pairwise (fun a b _ _ h1 h2 => by omega) h1 h2 ((List.perm_ext_iff_of_nodup (nd h1) (nd h2)).2 h)
theorem vw_lt {ps : List (Int × List Int)} (h : isVw ps) : ps.Pairwise fun a b => a.1 < b.1 := by
  have key : ∀ (d i : Nat), i + d + 1 < ps.length → (ps.getD i (0, [])).1 < (ps.getD (i + d + 1) (0, [])).1 := by
    intro d
    induction d with
    | zero => intro i hi; have := (h (i + 1) hi).2 (by omega); simpa using this
    | succ d ih =>
      intro i hi
      have h1 := ih i (by omega)
      have h2 := (h (i + (d + 1) + 1) hi).2 (by omega)
      rw [show i + (d + 1) + 1 - 1 = i + d + 1 by omega] at h2
      omega
  rw [List.pairwise_iff_getElem]
  intro i j hi hj hij
  have := key (j - i - 1) i (by omega)
  rw [show i + (j - i - 1) + 1 = j by omega] at this
  simpa [List.getD, hi, hj] using this
theorem vw_eq {ps : List (Int × List Int)} (h : isVw ps) (hr : ∀ i, i < ps.length → 0 ≤ (ps.getD i (0, [])).1 ∧ (ps.getD i (0, [])).1 < 40) : ps = viewTo (ps.foldl putM fun _ => []) 40 := by
  have hlt := vw_lt h
  have hinj : ∀ i j, i < ps.length → j < ps.length → i < j → (ps.getD i (0, [])).1 < (ps.getD j (0, [])).1 := fun i j hi hj hij => by
    have := List.pairwise_iff_getElem.1 hlt i j hi hj hij
    simpa [List.getD, hi, hj] using this
  refine rising_eq hlt (view_lt _ _) fun x => ?_
  rw [view_mem]
  constructor
  · intro hx
    obtain ⟨i, hi, rfl⟩ := List.getElem_of_mem hx
    have e : ps.getD i (0, []) = ps[i] := by simp [List.getD, hi]
    have hl := foldl_last (qs := ps) (M := fun _ => []) (a := ps[i].1) (i := i) hi (by rw [e]) (fun j h1 h2 => by have := hinj i j hi h2 h1; rw [e] at this; omega)
    have hri := hr i hi
    have hne := (h i hi).1
    rw [e] at hl hri hne
    exact ⟨hri.1, hri.2, hne, hl.symm⟩
  · rintro ⟨h1, h2, h3, h4⟩
    by_cases hex : ∃ i, i < ps.length ∧ (ps.getD i (0, [])).1 = x.1
    · obtain ⟨i, hi, hix⟩ := hex
      have hl := foldl_last (qs := ps) (M := fun _ => []) (a := x.1) (i := i) hi hix (fun j h1 h2 => by have := hinj i j hi h2 h1; omega)
      have e : ps.getD i (0, []) = ps[i] := by simp [List.getD, hi]
      have : x = ps[i] := by
        rw [← e]
        exact Prod.ext hix.symm (h4.trans hl)
      rw [this]
      exact List.getElem_mem hi
    · have := foldl_none (qs := ps) (M := fun _ => []) (a := x.1) (fun i hi e => hex ⟨i, hi, e⟩)
      rw [this] at h4
      exact absurd h4 h3
end Go.Proofs.YtlmaopljihbdkaaGreat
namespace Go.Proofs.YtlmaopljihbdkaaGreat
open Go.RowKit Go.Maps
instance (ps : List (Int × List Int)) : Decidable (isVw ps) := by unfold isVw; infer_instance
def apC (vs ps : List (Int × List Int)) : Int := if hpF 60 vs = 0 then (if hpF 60 ps = 0 then (if isVw vs then 0 else 1) else hpF 60 ps) else hpF 60 vs
def apM (vs ps : List (Int × List Int)) : Int → List Int := ps.foldl putM (vs.foldl putM fun _ => [])
def apR (vs ps : List (Int × List Int)) : List (Int × List Int) := if apC vs ps = 0 then viewTo (apM vs ps) 40 else []
theorem apC_zero {vs ps : List (Int × List Int)} (h : apC vs ps = 0) : hpF 60 vs = 0 ∧ hpF 60 ps = 0 ∧ isVw vs := by
  unfold apC at h
  by_cases h1 : hpF 60 vs = 0
  · rw [if_pos h1] at h
    by_cases h2 : hpF 60 ps = 0
    · rw [if_pos h2] at h
      by_cases h3 : isVw vs
      · exact ⟨h1, h2, h3⟩
      · rw [if_neg h3] at h; exact absurd h (by decide)
    · rw [if_neg h2] at h; exact absurd h h2
  · rw [if_neg h1] at h; exact absurd h h1
theorem RdP_old {S : Nat → Prop} {w : World} {v : Value} {ps : List (Int × List Int)} (h : RdP S w v ps) : RdP (fun b => b < w.heap.size) w v ps := by
  obtain ⟨ao, c, e1, e2, e3⟩ := h
  refine ⟨ao, c, e1, e2, fun hne => ?_⟩
  obtain ⟨b, off, V, f1, f2, f3⟩ := e3 hne
  refine ⟨b, off, V, f1, World.block_lt_of_cell? _ _ (f3 0 (List.length_pos_iff.2 hne)).1, fun i hi => ⟨(f3 i hi).1, (f3 i hi).2.1, ?_⟩⟩
  obtain ⟨ao', c', k1, k2, k3⟩ := (f3 i hi).2.2
  refine ⟨ao', c', k1, k2, fun hn => ?_⟩
  obtain ⟨b', off', m1, m2, m3⟩ := k3 hn
  exact ⟨b', off', m1, World.block_lt_of_cell? _ _ (m3 0 (List.length_pos_iff.2 hn)), m3⟩
theorem ret_putsA {w w3 : World} {P : Nat → Prop} {r : Nat} {z x : Value} {ps : List (Int × List Int)} (hb : Below w.heap.size w w3) (hr : w.heap.size ≤ r) (ho : OwP P w3 z ps) (hP : ∀ b, P b → r < b ∧ b < w3.heap.size) :
    Below w.heap.size w ((w3.setCell ⟨r, 0, none⟩ x).setCell ⟨r, 1, none⟩ z) ∧ OwP (fun b => w.heap.size ≤ b ∧ b < ((w3.setCell ⟨r, 0, none⟩ x).setCell ⟨r, 1, none⟩ z).heap.size) ((w3.setCell ⟨r, 0, none⟩ x).setCell ⟨r, 1, none⟩ z) z ps := by
  have hw : Wr (fun y => y = r) w3 ((w3.setCell ⟨r, 0, none⟩ x).setCell ⟨r, 1, none⟩ z) := ((Wr.refl (fun y => y = r) _).setCell (p := ⟨r, 0, none⟩) rfl _).setCell (p := ⟨r, 1, none⟩) rfl _
  exact ⟨(hb.setCell (p := ⟨r, 0, none⟩) hr _).setCell (p := ⟨r, 1, none⟩) hr _, (ho.wr hw (fun b h1 e => by have := hP b h1; omega)).mono (fun b hb => by have := hP b hb; simp; omega)⟩
end Go.Proofs.YtlmaopljihbdkaaGreat
namespace Go.Proofs.YtlmaopljihbdkaaGreat
open Go.RowKit Go.Maps
def vF (vs : List (Int × List Int)) : Int := if hpF 60 vs = 0 then (if isVw vs then 0 else 1) else hpF 60 vs
theorem RdJ.at {S : Nat → Prop} {w : World} {ao : Option Addr} {n c k : Nat} {os : List Oj} (h : RdJ S w (.slice ao n c) os) (hk : k < os.length) :
    ∃ b off v, ao = some ⟨b, off, none⟩ ∧ w.cell? ⟨b, off + k * 3, none⟩ = some (.int .i64 (os.getD k oj0).1) ∧ w.cell? ⟨b, off + k * 3 + 1, none⟩ = some (.int .i64 (os.getD k oj0).2.1) ∧ w.cell? ⟨b, off + k * 3 + 2, none⟩ = some v ∧ RdI S w v (os.getD k oj0).2.2 := by
  obtain ⟨ao', c', e, _, h3⟩ := h
  injection e with e1 e2 e3
  subst e1
  obtain ⟨b, off, V, e, _, hc⟩ := h3 (by rintro rfl; exact absurd hk (Nat.not_lt_zero _))
  obtain ⟨k0, k1, k2, k3⟩ := hc k hk
  exact ⟨b, off, V k, e, k0, k1, k2, k3⟩
theorem viewFaultP {S : Nat → Prop} {w : World} {u : Value} {vs : List (Int × List Int)} (hu : RdP S w u vs) :
    Calls Tryz.prog 50 #[u] w fun e w' => e = .returned (.int .i64 (vF vs)) ∧ Below w.heap.size w w' := by
  obtain ⟨au, cu, rfl, _⟩ := hu.shape
  have HU := hide (homePutsFault 60 hu)
  have HI := hide (fun (w' : World) (hb : Below w.heap.size w w') => isViewP (hu.later hb))
  have HV : Hid (vF vs = if hpF 60 vs = 0 then (if isVw vs then 0 else 1) else hpF 60 vs) := rfl
  clear hu
  generalize hpF 60 vs = p at HU HV
  generalize vF vs = C at HV ⊢
  by_cases h0 : p = 0
  · subst h0
    go_enter Tryz.func50, Tryz.ntmps50
    go_wp2_with fail
    refine HU.out.mono ?_
    rintro e w1 ⟨rfl, hb1⟩
    have HB1 := hide hb1
    clear hb1
    go_wp2_with fail
    refine (HI.out _ HB1.out).mono ?_
    rintro e w2 ⟨⟨r, rfl, hr⟩, hb2⟩
    have HB2 := hide (below_on HB1.out hb2)
    have HRr := hide hr
    clear hb2 hr
    cases r with
    | true =>
      have hC : C = 0 := by have h := HV.out; have h2 := HRr.out.1 rfl; simpa [h2] using h
      subst hC
      clear HRr
      go_wp2
      go_ret
      exact ⟨rfl, HB2.out⟩
    | false =>
      have hC : C = 1 := by have h := HV.out; have h2 : ¬ isVw vs := fun h => (by have := HRr.out.2 h; cases this); simpa [h2] using h
      subst hC
      clear HRr
      go_wp2
      go_ret
      exact ⟨rfl, HB2.out⟩
  · have hC : C = p := by rw [HV.out, if_neg h0]
    subst hC
    go_enter Tryz.func50, Tryz.ntmps50
    go_wp2_with fail
    refine HU.out.mono ?_
    rintro e w1 ⟨rfl, hb1⟩
    have HB1 := hide hb1
    clear hb1
    go_wp2
    go_ret
    exact ⟨rfl, HB1.out⟩
end Go.Proofs.YtlmaopljihbdkaaGreat
namespace Go.Proofs.YtlmaopljihbdkaaGreat
open Go.RowKit Go.Maps
def lkP (ps : List (Int × List Int)) : Int → List Int := ps.foldl putM fun _ => []
theorem zeroWordsAt (w : World) : (zeroValue 22).run Tryz.prog w = .ok (.slice none 0 0) w := by kernel_rfl
theorem SeenS.look {S : Nat → Prop} {w : World} {B n : Nat} {M : Int → List Int} (h : SeenS S w B n M) {a : Int} (h0 : 0 ≤ a) (h1 : a < 40) :
    ∃ v, (∀ w' : World, w'.heap[B]? = w.heap[B]? → (Instr.lookup 93 (.map (some B)) (.int .i64 a) false).run Tryz.prog w' = .ok v w') ∧ RdI S w v (M a) := by
  obtain ⟨D, hown, hD, _⟩ := h
  obtain ⟨v, hv, hr⟩ := hD a h0 h1
  refine ⟨v, fun w' hw => ?_, hr⟩
  have hown' : w'.ownsMap Tryz.prog 2 asIs B n D := by
    obtain ⟨es, clock, hb, F, hs, hDD⟩ := hown
    exact ⟨es, clock, hw.trans hb, F, hs, hDD⟩
  have hkey : keyOf Tryz.prog 2 (.int .i64 a) = some (.int .i64 a) := keyOf_int_mk Tryz.underlying2 (WalkArith.wf_i64 (by omega))
  obtain ⟨v', p', hrun, hv'⟩ := hown'.lookup lawI64 Tryz.underlying93 (zeroWordsAt w') (zd := .held (.slice none 0 0)) (zp := []) rfl hkey
  rw [hv] at hv'
  have e : v' = v := by
    simp only [asIs, Option.some.injEq, Prod.mk.injEq, DataW.held.injEq] at hv'
    exact hv'.1
  rw [← e]
  exact hrun
end Go.Proofs.YtlmaopljihbdkaaGreat
