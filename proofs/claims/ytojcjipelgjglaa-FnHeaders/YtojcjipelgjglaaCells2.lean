/- 'impl.putCell', walked. -/
import Derived.Test.YtojcjipelgjglaaCells
namespace Go.Proofs.Ytojcjipelgjglaa
open Go.RowKit

/-- A float that stands for a small whole number, made an integer. -/
theorem conv_back {d : TypeId} (hd : Try.prog.underlying d = some (.int .i64)) {fx x : Nat} (h : (FloatKind.f64.decode fx).toInt .zero = some (x : Int)) (hx : x ≤ 65535) (w : World) :
    (convert 141 d (.float .f64 fx)).run Try.prog w = .ok (.int .i64 (x : Int)) w := by
  have h1 : IntKind.i64.min ≤ (x : Int) := by simp [IntKind.min, IntKind.bits]; omega
  simp [convert, run_underlying Try.underlying141, run_underlying hd, Conv.floatToInt, h, h1]
  intro h2
  omega

theorem putCell_zero (ao : Option Addr) (n c : Nat) (w : World) :
    Calls Try.prog 108 #[.slice ao n c, .complex .f64 0 0] w fun e w' => e = .returned (.slice ao n c) ∧ w' = w := by
  go_enter Try.func108, Try.ntmps108
  go_wp2
  go_ret
  exact ⟨rfl, rfl⟩

set_option maxRecDepth 4000 in
theorem putCell_word {B : Nat} {w : World} {v : Value} {n i x : Nat} {xs : List Int} (ho : w.ownsRow B 2 1 v n (xs.map (Value.int .i64))) (hB : B ≤ w.heap.size) (hn : n ≤ i) (hi64 : i < 64) (hx : x ≤ 65535) :
    Calls Try.prog 108 #[v, .complex .f64 (fl x) (fl (i + 1))] w fun e w' => ∃ v', e = .returned v' ∧ w'.ownsRow B 2 1 v' (i + 1) ((xs ++ List.replicate (i - n) 0 ++ [(x : Int)]).map (Value.int .i64)) ∧ Below B w w' := by
  obtain ⟨ao, c, rfl⟩ := ownsRow_shape ho
  obtain ⟨i0, hi, hz0, hz1, hz2⟩ := info_parts Try.infoInt
  have HO := hide ho
  clear ho
  have ne := fl_ne (i + 1) (by omega) (by omega)
  have t1 := fl_toInt (i + 1) (by omega)
  have t2 := fl_toInt x hx
  generalize fl x = fx at t2 ⊢
  generalize fl (i + 1) = fi at ne t1 ⊢
  go_enter Try.func108, Try.ntmps108
  have cv1 := fun w => conv_back (d := 3) Try.underlying3 t1 (by omega) w
  have cv2 := fun w => conv_back (d := 2) Try.underlying2 t2 hx w
  clear t1 t2
  go_wp2
  go_loopw [0] (fun v wr => ∃ (j : Nat) (ao : Option Addr) (c : Nat), n + j ≤ i ∧ v = .slice ao (n + j) c ∧ Hid (wr.ownsRow B 2 1 (.slice ao (n + j) c) (n + j) ((xs ++ List.replicate j 0).map (Value.int .i64))) ∧ Hid (Below B w wr)) (fun v _ => i - sliceLen v)
  case atStart => exact ⟨0, ao, c, by omega, rfl, by have := HO.out; simpa [Hid] using this, Below.refl _ _⟩
  case round =>
    obtain ⟨j, ao, c, hj, rfl, HO2, HB⟩ := hrel
    have hz := HB.out.size
    by_cases hlt : n + j < i
    · go_wp2_with (at_builtin; refine wpList_append_lies _ rfl _ _ _ rfl B 2 i0 (.int .i64 0) 1 8 Try.underlying24 hi hz0 hz1 hz2 rfl (by omega) _ (n + j) _ (by rfl) (HO2.out.alloc _) ⟨wr.heap.size, 0, none⟩ 1 1 [.int .i64 0] (by rfl) (by rfl) (World.news_of_block (cs := #[.int .i64 0]) (t := 2) (fr := (0, 0)) (heap_alloc_new wr _)) (by simp [Value.oneCell']) (by omega) (by unfold maxLen; omega) (by omega) (by simp; omega) (wr.heap.size + 1) (by simp) ?_)
      intro g cap w3 hown hgrow hat hlt3
      have HO3 : Hid (w3.ownsRow B 2 1 (.slice (some ⟨g, 0, none⟩) (n + (j + 1)) cap) (n + (j + 1)) ((xs ++ List.replicate (j + 1) 0).map (Value.int .i64))) := by rw [Hid, snoc_zero]; exact hown
      have HG3 := hide ((HB.out.trans ((below_alloc wr (.cells #[.int .i64 0] 2)).mono (by omega))).grown hgrow (by simp; omega) (fun r hr => (HO2.out.lt r hr).1))
      clear hown hgrow hat hlt3
      go_wp2
      go_roundw
      case rel => exact ⟨j + 1, _, _, by omega, rfl, HO3.out, HG3.out⟩
      case measure => simp [sliceLen]; omega
    · have HJ2 : Hid (n + j = i) := by unfold Hid; omega
      go_wp2_with (at_builtin; refine wpList_append_lies _ rfl _ _ _ rfl B 2 i0 (.int .i64 0) 1 8 Try.underlying24 hi hz0 hz1 hz2 rfl (by omega) _ (n + j) _ (by rfl) (HO2.out.alloc _) ⟨wr.heap.size, 0, none⟩ 1 1 [.int .i64 (x : Int)] (by rfl) (by rfl) (World.news_of_block (cs := #[.int .i64 (x : Int)]) (t := 2) (fr := (0, 0)) (heap_alloc_new wr _)) (by simp [Value.oneCell']) (by omega) (by unfold maxLen; omega) (by omega) (by simp; omega) (wr.heap.size + 1) (by simp) ?_)
      intro g cap w3 hown hgrow hat hlt3
      have HO3 : Hid (w3.ownsRow B 2 1 (.slice (some ⟨g, 0, none⟩) (n + j + 1) cap) (i + 1) ((xs ++ List.replicate (i - n) 0 ++ [(x : Int)]).map (Value.int .i64))) := by
        rw [Hid, ← HJ2.out, show n + j - n = j by omega, List.map_append (l₁ := xs ++ List.replicate j 0)]; simpa using hown
      have HG3 := hide ((HB.out.trans ((below_alloc wr (.cells #[.int .i64 (x : Int)] 2)).mono (by omega))).grown hgrow (by simp; omega) (fun r hr => (HO2.out.lt r hr).1))
      clear hown hgrow hat hlt3
      go_wp2
      go_ret
      exact ⟨.slice (some ⟨g, 0, none⟩) (n + j + 1) cap, rfl, HO3.out, HG3.out⟩
end Go.Proofs.Ytojcjipelgjglaa
