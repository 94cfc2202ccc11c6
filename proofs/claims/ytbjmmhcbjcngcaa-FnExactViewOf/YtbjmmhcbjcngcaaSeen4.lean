/- Chapter 4, the model's side: 'l4Last', 'l4Read' and 'ReadHome', walked. -/
import Derived.Test.YtbjmmhcbjcngcaaSeen3
import Derived.Test.YtbjmmhcbjcngcaaLog2
import Derived.Test.YtbjmmhcbjcngcaaBlockAt2
namespace Go.Proofs.Ytbjmmhcbjcngcaa
open Go.RowKit

set_option maxHeartbeats 1000000 in
set_option maxRecDepth 4000 in
theorem l4Last {S : Nat → Prop} {w : World} {v : Value} {qs : List (Int × List Int)} (a : Int) (hv : RdP S w v qs) :
    Calls Try.prog 31 #[v, .int .i64 a] w fun e w' => w' = w ∧ ((e = .returned (.int .i64 (-1)) ∧ ∀ j, j < qs.length → (qs.getD j (0, [])).1 ≠ a) ∨ ∃ i : Nat, e = .returned (.int .i64 (i : Int)) ∧ i < qs.length ∧ (qs.getD i (0, [])).1 = a ∧ ∀ j, i < j → j < qs.length → (qs.getD j (0, [])).1 ≠ a) := by
  obtain ⟨ao, c, rfl, hm⟩ := hv.shape
  have HV := hide hv
  obtain ⟨n, hn⟩ : ∃ n, qs.length = n := ⟨_, rfl⟩
  have HN := hide hn
  rw [hn] at HV hm ⊢
  clear hv hn
  have hw0 : IntKind.i64.wrap ((n : Int) - 1) = (n : Int) - 1 := by simp [IntKind.wrap, IntKind.bits, IntKind.signed]; omega
  go_enter Try.func31, Try.ntmps31
  go_wp2
  go_loopw [5] (fun i wr => ∃ k : Nat, k ≤ n ∧ i = .int .i64 ((k : Int) - 1) ∧ Hid (∀ j, k ≤ j → j < n → (qs.getD j (0, [])).1 ≠ a) ∧ wr = w) (fun i _ => (intOf i + 1).toNat)
  case atStart => exact ⟨n, Nat.le_refl _, rfl, fun j h1 h2 => by omega, rfl⟩
  case round =>
    obtain ⟨k, hk, rfl, HA, rfl⟩ := hrel
    by_cases hk0 : k = 0
    · subst hk0
      have HR : Hid (∀ j, j < n → (qs.getD j (0, [])).1 ≠ a) := fun j hj => HA.out j (Nat.zero_le _) hj
      go_wp2
      go_ret
      exact ⟨rfl, Or.inl ⟨rfl, HR.out⟩⟩
    · obtain ⟨i, rfl⟩ : ∃ i, k = i + 1 := ⟨k - 1, by omega⟩
      have e1 : ((i + 1 : Nat) : Int) - 1 = (i : Int) := by omega
      rw [e1]
      obtain ⟨b, off, V, rfl, q1, _, _⟩ := HV.out.at (k := i) (by rw [HN.out]; omega)
      obtain ⟨x, hx⟩ : ∃ x, (qs.getD i (0, [])).1 = x := ⟨_, rfl⟩
      have HX := hide hx
      rw [hx] at q1
      have hi0 : (0 : Int) ≤ (i : Int) := Int.natCast_nonneg _
      have hi1 : (i : Int) < (n : Int) := by omega
      have hwi : IntKind.i64.wrap ((i : Int) - 1) = (i : Int) - 1 := by simp [IntKind.wrap, IntKind.bits, IntKind.signed]; omega
      clear hx e1
      by_cases hxa : x = a
      · subst hxa
        have HR : Hid (∀ j, i < j → j < n → (qs.getD j (0, [])).1 ≠ x) := fun j h1 h2 => HA.out j h1 h2
        go_wp2
        go_ret
        exact ⟨rfl, Or.inr ⟨i, rfl, by omega, HX.out, HR.out⟩⟩
      · have HA2 : Hid (∀ j, i ≤ j → j < n → (qs.getD j (0, [])).1 ≠ a) := by
          intro j h1 h2
          by_cases e : j = i
          · subst e; rw [HX.out]; exact hxa
          · exact HA.out j (by omega) h2
        go_wp2
        go_roundw
        case rel => exact ⟨i, by omega, by first | rfl | go_num, HA2.out, by simp⟩
        case measure => simp [intOf]; try omega

set_option maxHeartbeats 1000000 in
set_option maxRecDepth 4000 in
theorem l4Read {S T L : Nat → Prop} {w : World} {bd : Nat} {ao ao' : Option Addr} {c c' : Nat} {z : Value} {xss : List (List Int)} {ps lps : List (Int × List Int)} (a : Int) (hd0 : w.cell? ⟨bd, 0, none⟩ = some (.slice ao xss.length c)) (hd1 : w.cell? ⟨bd, 1, none⟩ = some (.slice ao' ps.length c')) (hu : RdII S w (.slice ao xss.length c) xss) (hv : RdP T w (.slice ao' ps.length c') ps) (hs : Small xss ps) (h66 : xss.length = 66) (hz : RdP L w z lps) (hzl : ∀ i, i < lps.length → (lps.getD i (0, [])).2.length ≤ 1048576) (ha1 : 0 ≤ a) (ha2 : a < 40) :
    Calls Try.prog 16 #[.pointer (some ⟨bd, 0, none⟩), z, .int .i64 a] w fun e w' => ∃ y, e = .returned y ∧ Below w.heap.size w w' ∧ OwI w.heap.size w' y (lps.foldl putM (homeM xss ps 40) a) := by
  obtain ⟨az, cz, rfl, _⟩ := hz.shape
  obtain ⟨_, _, _, hm63⟩ := hv.shape
  have HLa := hide (l4Last a hz)
  have HAt := hide (l1At_cells xss ps xss.length ps.length bd ao ao' c c' w (26 + a) rfl rfl hm63 hd0 hd1 hu hv (by omega) (by rw [h66]; omega))
  have HBl := hide (blkTo_len hs (at_ := 26 + a) ps.length (Nat.le_refl _) (by omega) (by rw [h66]; omega))
  have HNo := hide (fun (h : ∀ j, j < lps.length → (lps.getD j (0, [])).1 ≠ a) => (foldl_none (M := homeM xss ps 40) h).trans (by unfold homeM; rw [if_pos (by omega)] : homeM xss ps 40 a = blkTo xss ps (26 + a) ps.length))
  have HYes := hide (fun (i : Nat) (h1 : i < lps.length) (h2 : (lps.getD i (0, [])).1 = a) (h3 : ∀ j, i < j → j < lps.length → (lps.getD j (0, [])).1 ≠ a) => foldl_last (M := homeM xss ps 40) h1 h2 h3)
  have HZ := hide hz
  have HZl := hide hzl
  obtain ⟨rs, hrs⟩ : ∃ rs, lps.foldl putM (homeM xss ps 40) a = rs := ⟨_, rfl⟩
  rw [hrs] at HNo HYes ⊢
  generalize blkTo xss ps (26 + a) ps.length = bs at HAt HBl HNo
  obtain ⟨l, hl⟩ : ∃ l, lps.length = l := ⟨_, rfl⟩
  have HL := hide hl
  rw [hl] at HLa HZ HZl HNo HYes ⊢
  have hwa : IntKind.i64.wrap (26 + a) = 26 + a := by simp [IntKind.wrap, IntKind.bits, IntKind.signed]; omega
  clear hd0 hd1 hu hv hs h66 hz hzl hrs hl
  go_enter Try.func16, Try.ntmps16
  go_wp2_with fail
  refine HLa.out.mono ?_
  rintro e w' ⟨hw', hres⟩
  have hw2 := hw'.symm
  subst hw2
  clear hw'
  rcases hres with ⟨rfl, hno⟩ | ⟨i, rfl, hi, hia, hil⟩
  · have hrs := HNo.out hno
    subst hrs
    clear hno
    go_wp2_with fail
    refine HAt.out.mono ?_
    rintro e w1 ⟨z1, rfl, ⟨q, rfl⟩, hr1⟩
    have HCp := hide (l1Ints hr1 HBl.out)
    obtain ⟨a1, k1, rfl⟩ := hr1.shape
    clear hr1
    go_wp2_with fail
    refine HCp.out.mono ?_
    rintro e w2 ⟨z2, rfl, hb2, ho2⟩
    have HB2 := hide (below_on (below_drewN w q) hb2)
    have HO2 := hide ho2
    clear hb2 ho2
    go_wp2
    go_ret
    exact ⟨_, rfl, HB2.out, HO2.out⟩
  · have hrs := HYes.out i hi hia hil
    obtain ⟨b, off, V, rfl, _, q2, q3⟩ := HZ.out.at (k := i) (by rw [HL.out]; exact hi)
    rw [← hrs] at q3
    have HCp := hide (l1Ints q3 (by rw [hrs]; exact HZl.out i hi))
    obtain ⟨a3, c3, rfl⟩ := q3.shape
    have hi0 : (0 : Int) ≤ (i : Int) := Int.natCast_nonneg _
    have hi1 : (i : Int) < (l : Int) := by omega
    clear hrs q3 hia hil
    go_wp2_with fail
    refine HCp.out.mono ?_
    rintro e w2 ⟨z2, rfl, hb2, ho2⟩
    have HB2 := hide hb2
    have HO2 := hide ho2
    clear hb2 ho2
    go_wp2
    go_ret
    exact ⟨_, rfl, HB2.out, HO2.out⟩

end Go.Proofs.Ytbjmmhcbjcngcaa
