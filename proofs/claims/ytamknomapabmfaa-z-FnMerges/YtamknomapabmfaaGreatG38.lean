/- View Vw in one text: what each says stands at its head below. -/
import Derived.Test.YtamknomapabmfaaGreatG30
import Derived.Test.YtamknomapabmfaaGreatG37
import Derived.Test.YtamknomapabmfaaGreatG05
import Derived.Test.YtamknomapabmfaaGreatG03
import Derived.Shelf.SortM.Plain
import Derived.Shelf.SortM.SortNone
import Derived.Deep.AppendLies
/- Chapter 4, the program's side: '(seen).view', walked: what the map has, rising. -/
namespace Go.Proofs.YtamknomapabmfaaGreat
open Go.RowKit Go.Maps Go.Sort Go.Shelf

theorem Tryz.sorts (m : Nat) : AnyZI.SortsIn Tryz.prog Tryz.sortedA_ren Fence.wide m :=
  ⟨fun blk off cap ss W hH hblk hsz => callsIn_wide.2 (AnyM.slices_Sort_int Tryz.sortA blk off cap ss W hH hblk hsz),
   fun p cap W => callsIn_wide.2 (AnyM.slices_Sort_int_none Tryz.sortA p cap W)⟩

theorem keysOf (B : Nat) (W : World) : Calls Tryz.prog 60 #[.map (some B)] W fun e w' => e = .returned (.func (.func 78) #[] #[.pointer (some ⟨W.heap.size, 0, none⟩)]) ∧ w' = W.alloc (.cells #[.map (some B)] 75) :=
  (callsIn_wide (n := 5)).1 (AnyZI.keys_in Tryz.keysA Fence.wide 5 trivial rfl (some B) W)

theorem sortedOf {w : World} {B nn : Nat} {D0 : DataW Value} (hown : w.ownsMap Tryz.prog 2 asIs B nn D0) (hnn : nn ≤ 1048576) :
    Calls Tryz.prog 59 #[.func (.func 78) #[] #[.pointer (some ⟨w.heap.size, 0, none⟩)]] (w.alloc (.cells #[.map (some B)] 75)) fun e w' => ∃ (v : Value) (ss : List Int), e = .returned v ∧ ss.Perm (intKeys D0) ∧
      w'.ownsRow (w.heap.size + 1) 2 1 v ss.length ((ss.mergeSort leI).map (Value.int .i64)) ∧ Below w.heap.size w w' := by
  have hbl := hown.lt
  have hsz := hown.size_le
  have hseq : SeqGives Fence.wide 2 Tryz.prog 78 #[.pointer (some ⟨w.heap.size, 0, none⟩)] encZ (fun ss => ss.Perm (intKeys D0)) (Maps.size D0) (w.alloc (.cells #[.map (some B)] 75)) :=
    AnyZI.keys_gives (ρ := Tryz.keysA_ren) { Tryz.keysA with } Fence.wide _ trivial rfl (by omega) w.heap.size B nn D0 _ (by simp) (by simp) (by
      obtain ⟨es, clock, hb, Ft, hs, hD⟩ := hown
      exact ⟨es, clock, (Below.heap_alloc _ _ B hbl).trans hb, Ft, hs, hD⟩)
  have cS := AnyZI.sorted_in Tryz.sortedA Fence.wide 5 trivial trivial trivial trivial rfl (by omega) (Tryz.sorts _) (enters_of Tryz.func77 (by kernel_rfl) rfl) 78 #[.pointer (some ⟨w.heap.size, 0, none⟩)] trivial (enters_of Tryz.func78 (by kernel_rfl) rfl) _ _ (by unfold maxLen; omega) (by omega) _ hseq
  change CallsIn _ _ Tryz.prog 59 _ _ _ at cS
  refine ((callsIn_wide (n := 5)).1 cS).mono ?_
  rintro e w' ⟨v, ss, rfl, hS, hrow, hnil, hb⟩
  exact ⟨v, ss, rfl, hS, by have h := hrow; rw [World.size_alloc] at h; exact h, (below_alloc w _).trans (hb.mono (by simp))⟩

/-- The home blocks below k that have words. -/
def keysTo (M : Int → List Int) (k : Nat) : List Int := ((List.range k).map fun (i : Nat) => (i : Int)).filter fun a => decide (M a ≠ [])
/-- .. with their words: a view. -/
def viewTo (M : Int → List Int) (k : Nat) : List (Int × List Int) := (keysTo M k).map fun a => (a, M a)
theorem keysTo_succ (M : Int → List Int) (k : Nat) : keysTo M (k + 1) = keysTo M k ++ if M (k : Int) = [] then [] else [(k : Int)] := by
  unfold keysTo
  rw [List.range_succ, List.map_append, List.filter_append]
  by_cases h : M (k : Int) = []
  · simp [h]
  · simp [h]
theorem viewTo_succ (M : Int → List Int) (k : Nat) : viewTo M (k + 1) = viewTo M k ++ if M (k : Int) = [] then [] else [((k : Int), M (k : Int))] := by
  unfold viewTo
  rw [keysTo_succ, List.map_append]
  by_cases h : M (k : Int) = []
  · simp [h]
  · simp [h]
theorem keysTo_mem (M : Int → List Int) (k : Nat) (a : Int) : a ∈ keysTo M k ↔ 0 ≤ a ∧ a < (k : Int) ∧ M a ≠ [] := by
  unfold keysTo
  rw [List.mem_filter, List.mem_map]
  constructor
  · rintro ⟨⟨i, hi, rfl⟩, h⟩
    rw [List.mem_range] at hi
    exact ⟨by omega, by omega, by simpa using h⟩
  · rintro ⟨h1, h2, h3⟩
    exact ⟨⟨a.toNat, List.mem_range.2 (by omega), by omega⟩, by simpa using h3⟩
theorem keysTo_lt (M : Int → List Int) (k : Nat) : (keysTo M k).Pairwise (· < ·) := by
  induction k with
  | zero => simp [keysTo]
  | succ k ih =>
    rw [keysTo_succ]
    by_cases h : M (k : Int) = []
    · simpa [h] using ih
    · simp only [h, if_false]
      refine List.pairwise_append.2 ⟨ih, by simp, fun a ha b hb => ?_⟩
      simp at hb
      subst hb
      exact ((keysTo_mem M k a).1 ha).2.1
theorem keysTo_len (M : Int → List Int) (k : Nat) : (keysTo M k).length ≤ k := by
  unfold keysTo
  refine Nat.le_trans (List.length_filter_le _ _) ?_
  simp
theorem keys_sorted {w : World} {B nn : Nat} {D0 : DataW Value} {M : Int → List Int} {ss : List Int} (hown : w.ownsMap Tryz.prog 2 asIs B nn D0) (hk : ∀ a : Int, has D0 (.int .i64 a) = true ↔ 0 ≤ a ∧ a < 40 ∧ M a ≠ []) (hp : ss.Perm (intKeys D0)) : ss.mergeSort leI = keysTo M 40 := by
  have hlt := keysTo_lt M 40
  have h1 : (keysTo M 40).Perm (intKeys D0) := CollectedI.perm (left := fun _ => false) ⟨hlt.imp (fun h => by omega), fun x => by rw [keysTo_mem, hk x]; simp⟩ hown lawI64 Tryz.underlying2 (fun _ => rfl)
  rw [mergeSort_of_perm_i (hp.trans h1.symm)]
  exact List.mergeSort_of_pairwise (hlt.imp (fun h => by simp [leI]; omega))

set_option maxHeartbeats 2000000 in
set_option maxRecDepth 4000 in
/-- '(seen).view': what the map has, rising, in new memory. -/
theorem seenView {w : World} {B n : Nat} {M : Int → List Int} (hs : SeenAt w B n M) (hn : n ≤ 1048576) (hl : ∀ a : Int, 0 ≤ a → a < 40 → (M a).length ≤ 1048576) :
    Calls Tryz.prog 41 #[.map (some B)] w fun e w' => ∃ z, e = .returned z ∧ Below w.heap.size w w' ∧ OwP (fun b => w.heap.size ≤ b ∧ b < w'.heap.size) w' z (viewTo M 40) := by
  have HS := hide hs
  obtain ⟨D, hown, hD, hK⟩ := hs
  obtain ⟨i0, hi, hz0, hz1, hz2⟩ := info_parts Tryz.infoPut
  have HSo := hide (sortedOf hown hn)
  have HKs := hide (fun ss => keys_sorted (ss := ss) hown hK)
  have HLn := hide hl
  have HKm := hide (keysTo_mem M 40)
  have HVl : Hid ((viewTo M 40).length = (keysTo M 40).length) := by simp [Hid, viewTo]
  have HVa : Hid (∀ i, i < (keysTo M 40).length → (viewTo M 40).getD i (0, []) = ((keysTo M 40).getD i 0, M ((keysTo M 40).getD i 0))) := fun i hi => by simp [viewTo, List.getD, hi]
  have HL40 := hide (keysTo_len M 40)
  obtain ⟨L, hL⟩ : ∃ L, viewTo M 40 = L := ⟨_, rfl⟩
  obtain ⟨K, hKK⟩ : ∃ K, keysTo M 40 = K := ⟨_, rfl⟩
  rw [hL] at HVl HVa ⊢
  rw [hKK] at HKs HKm HVl HVa HL40
  obtain ⟨m, hm⟩ : ∃ m, K.length = m := ⟨_, rfl⟩
  have HM := hide hm
  rw [hm] at HVl HVa HL40
  have hm40 : m ≤ 40 := HL40.out
  clear hown hD hK hl hL hKK hm HL40
  go_enter Tryz.func41, Tryz.ntmps41
  go_wp2_with fail
  refine (keysOf B w).mono ?_
  rintro e w1 ⟨rfl, rfl⟩
  go_wp2_with fail
  refine HSo.out.mono ?_
  rintro e w2 ⟨v, ss, rfl, hp, hrow, hb⟩
  have hss := HKs.out ss hp
  have hsl : ss.length = m := by rw [← List.length_mergeSort (le := leI) ss, hss]; exact HM.out
  rw [hss, hsl] at hrow
  have HR : Hid (RdI (fun b => b < w2.heap.size) w2 v K) := by
    have h := ow_of_owns HM.out hrow (by rw [HM.out]; omega)
    exact RdI.narrow h.rd (fun _ b hb => hb.2)
  obtain ⟨av, cv, rfl⟩ : ∃ av cv, v = .slice av m cv := by
    obtain ⟨av, cv, h⟩ := HR.out.shape
    rw [HM.out] at h
    exact ⟨av, cv, h⟩
  have HB2 := hide hb
  have HS2 := hide (HS.out.later hb)
  clear hp hrow hb hss hsl HSo HKs HS
  go_wp2
  go_loopw [3, 10] (fun v i wr => ∃ k : Nat, k ≤ m ∧ i = .int .i64 k ∧ Hid (BuiltP (w2.heap.size ≤ ·) wr v k L) ∧ Hid (Below w2.heap.size w2 wr)) (fun _ i _ => m - (RowKit.intOf i).toNat)
  case atStart => exact ⟨0, Nat.zero_le _, rfl, BuiltP.nil _ _ _, Below.refl _ _⟩
  case round =>
    obtain ⟨k, hk, rfl, HBu, HB⟩ := hrel
    by_cases hlt : k < m
    · obtain ⟨b, off, rfl, hx⟩ := (HR.out).at (k := k) (by rw [HM.out]; exact hlt)
      have hx' := cell_later HB.out hx
      have hmem : K.getD k 0 ∈ K := by
        have h : k < K.length := by rw [HM.out]; exact hlt
        simp [List.getD, h]
      obtain ⟨ha1, ha2, _⟩ := (HKm.out _).1 hmem
      have HX := hide (HVa.out k hlt)
      obtain ⟨a, ha⟩ : ∃ a, K.getD k 0 = a := ⟨_, rfl⟩
      rw [ha] at hx' HX ha1 ha2
      have ha2' : a < 40 := by omega
      have hkey : Hid (keyOf Tryz.prog 2 (.int .i64 a) = some (.int .i64 a)) := keyOf_int_mk Tryz.underlying2 (WalkArith.wf_i64 (by omega))
      obtain ⟨D', hown, hD, _⟩ := HS2.out.later HB.out
      obtain ⟨v3, hat, hr3⟩ := hD a ha1 ha2'
      obtain ⟨v', p', hrun, hv'⟩ := hown.lookup lawI64 Tryz.underlying75 (zeroWords wr) (zd := .held (.slice none 0 0)) (zp := []) rfl hkey.out
      have hvv : v' = v3 := by
        rw [hat] at hv'
        injection hv' with h1
        injection h1 with h2
        injection h2
      subst hvv
      obtain ⟨a3, k3, rfl⟩ := hr3.shape
      have HCp := hide (copyWords hr3 (HLn.out a ha1 ha2'))
      obtain ⟨ws, hws⟩ : ∃ ws, M a = ws := ⟨_, rfl⟩
      rw [hws] at HCp HX hrun hr3
      obtain ⟨V2, Bk2, hown2, hpr, hin⟩ := HBu.out
      have HOw0 := hide hown2
      have HPr := hide hpr
      have HIn := hide hin
      have hz := HB.out.size
      clear hx hmem ha hD hown hat hv' hr3 hws hown2 hpr hin
      go_wp2_with fail
      refine HCp.out.mono ?_
      rintro e w3 ⟨z3, rfl, hb3, ho3⟩
      obtain ⟨ao4, c4, rfl⟩ := ho3.shape
      have HB1 := hide hb3
      have HO1 := hide ho3
      have hzz := hb3.size
      clear hb3 ho3 hrun
      go_wp2_with (at_builtin; refine wpList_append_lies _ rfl _ _ _ rfl 0 38 i0 (.agg #[.int .i64 0, .slice none 0 0]) 2 32 Tryz.underlying30 hi hz0 hz1 hz2 rfl (by omega) _ k _ (by rfl) (ownsRow_later (ownsRow_later HOw0.out HB1.out) (below_alloc w3 (.cells #[.int .i64 a, .slice ao4 ws.length c4] 38))) ⟨w3.heap.size, 0, none⟩ 1 1 [.int .i64 a, .slice ao4 ws.length c4] (by rfl) (by rfl) (World.news_of_block (cs := #[.int .i64 a, .slice ao4 ws.length c4]) (t := 38) (fr := (0, 0)) (heap_alloc_new w3 _)) cells2_one (by omega) (by unfold maxLen; omega) (by omega) (Nat.zero_le _) (w3.heap.size + 1) (by simp) ?_)
      intro g cap w4 hown3 hgrow hat hlt3
      have HSt := hide (BuiltP.step (P' := (w2.heap.size ≤ ·)) (ps := L) HIn.out HOw0.out HPr.out (fun _ h => h) (fun b hb => Nat.le_trans hz hb) HB1.out (by rw [HX.out]; exact HO1.out) (below_alloc w3 (.cells #[.int .i64 a, .slice ao4 ws.length c4] 38)) (by rw [HX.out]; exact hown3) hgrow (by simpa using hat))
      have HB3 := hide ((below_on (below_on HB.out HB1.out) (below_alloc w3 (.cells #[.int .i64 a, .slice ao4 ws.length c4] 38))).grown hgrow (by simp; omega) (fun r hr => HPr.out r hr))
      clear hown3 hgrow hat hlt3
      go_wp2
      go_roundw
      case rel => exact ⟨k + 1, hlt, by go_num, HSt.out, HB3.out⟩
      case measure => simp [RowKit.intOf]; omega
    · have hkn : k = m := by omega
      subst hkn
      go_wp2
      go_ret
      exact ⟨_, rfl, below_on HB2.out HB.out, (HBu.out.ow HVl.out (by omega)).mono (fun b hb => ⟨by have := HB2.out.size; have := hb.1; omega, hb.2⟩)⟩
end Go.Proofs.YtamknomapabmfaaGreat
/- Chapter 4: ViewOf of the program and of the model, walked. -/
namespace Go.Proofs.YtamknomapabmfaaGreat
open Go.RowKit Go.Maps

/-- What is seen on a disk. -/
def vwL (xss : List (List Int)) (ps : List (Int × List Int)) : List (Int × List Int) := if inF xss ps = 0 then viewTo ((lgP xss ps).foldl putM (homeM xss ps 40)) 40 else []

end Go.Proofs.YtamknomapabmfaaGreat
