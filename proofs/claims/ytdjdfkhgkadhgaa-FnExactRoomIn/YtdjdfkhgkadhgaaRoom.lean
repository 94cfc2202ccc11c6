/- Chapter 4: 'RoomIn' of the program and of the model, walked. -/
import Derived.Test.YtdjdfkhgkadhgaaLog
import Derived.Test.YtdjdfkhgkadhgaaSlot
namespace Go.Proofs.Ytdjdfkhgkadhgaa
open Go.RowKit

/-- What 'RoomIn' tells. -/
def rmV (xss : List (List Int)) (ps : List (Int × List Int)) : Int := if inF xss ps = 0 then 24 - ((inA xss ps).length : Int) else 0

set_option maxHeartbeats 1000000 in
set_option maxRecDepth 4000 in
theorem implRoomIn {S T : Nat → Prop} {w : World} {u v : Value} {xss : List (List Int)} {ps : List (Int × List Int)} (hu : RdII S w u xss) (hv : RdP T w v ps) (hs : Small xss ps) :
    Calls Try.prog 35 #[.agg #[u, v]] w fun e w' => e = .returned (.agg #[.int .i64 (inF xss ps), .int .i64 (rmV xss ps)]) ∧ Below w.heap.size w w' := by
  obtain ⟨ao, c, rfl, _⟩ := hu.shape
  obtain ⟨ao', c', rfl, _⟩ := hv.shape
  have HIn := hide (fun (w' : World) (hb : Below w.heap.size w w') => implHeaderIn (hu.later hb) (hv.later hb) hs)
  have HA24 : Hid (inF xss ps = 0 → (inA xss ps).length ≤ 24) := fun h => (headF_zero (in_ok h).2.2).2.1
  obtain ⟨n, hn⟩ : ∃ n, xss.length = n := ⟨_, rfl⟩
  obtain ⟨m, hm⟩ : ∃ m, ps.length = m := ⟨_, rfl⟩
  have A0 := hide (below_on (below_alloc w (.cells #[.slice ao n c, .slice ao' m c'] 33)) (below_alloc _ (.cells #[.int .i64 0, .int .i64 0] 50)))
  unfold rmV
  rw [hn, hm] at HIn
  rw [hn, hm]
  clear hu hv hs hn hm
  generalize inA xss ps = A at HIn HA24 ⊢
  generalize inS xss ps = s at HIn
  generalize inT xss ps = t at HIn
  generalize inF xss ps = z at HIn HA24 ⊢
  obtain ⟨l, hl⟩ : ∃ l, A.length = l := ⟨_, rfl⟩
  have HL := hide hl
  rw [hl] at HA24 ⊢
  clear hl
  obtain ⟨vv, hvv⟩ : ∃ vv : Int, (if z = 0 then 24 - (l : Int) else 0) = vv := ⟨_, rfl⟩
  rw [hvv]
  have HVV := hide hvv
  clear hvv
  go_enter Try.func35, Try.ntmps35
  go_wp2_with fail
  refine (HIn.out _ A0.out).mono ?_
  rintro e w1 ⟨z1, rfl, hb1, ho1⟩
  obtain ⟨a1, k1, hz1'⟩ := ho1.shape
  rw [HL.out] at hz1'
  subst hz1'
  have q0 : w1.cell? ⟨w.heap.size + 1, 0, none⟩ = some (.int .i64 0) := cell_later hb1 (by simp [go_sem])
  have q1 : w1.cell? ⟨w.heap.size + 1, 1, none⟩ = some (.int .i64 0) := cell_later hb1 (by simp [go_sem])
  have f0 : w1.frozen? ⟨w.heap.size + 1, 0, none⟩ = false := ((bcell hb1).2 _ _ (by simp)).trans (by simp [go_sem])
  have f1 : w1.frozen? ⟨w.heap.size + 1, 1, none⟩ = false := ((bcell hb1).2 _ _ (by simp)).trans (by simp [go_sem])
  have hlt : w.heap.size + 1 < w1.heap.size := World.block_lt_of_cell? _ _ q0
  have HB := hide (below_on A0.out hb1)
  clear hb1 ho1
  by_cases h0 : z = 0
  · have hl24 := HA24.out h0
    subst h0
    have hv2 : vv = 24 - (l : Int) := by rw [← HVV.out, if_pos rfl]
    subst hv2
    have hwr : IntKind.i64.wrap (24 - (l : Int)) = 24 - (l : Int) := by simp [IntKind.wrap, IntKind.bits, IntKind.signed]; omega
    go_wp2
    have BA := below_alloc ((w1.setCell ⟨w.heap.size + 1, 0, none⟩ (.int .i64 0)).setCell ⟨w.heap.size + 1, 1, none⟩ (.int .i64 (24 - (l : Int)))) (.cells #[.int .i64 0, .int .i64 s, .int .i64 t, .slice a1 l k1] 66)
    have m0 := cell_later BA (a := ⟨w.heap.size + 1, 0, none⟩) (v := .int .i64 0) (by simp [go_sem, q0])
    have m1 := cell_later BA (a := ⟨w.heap.size + 1, 1, none⟩) (v := .int .i64 (24 - (l : Int))) (by simp [go_sem, q1])
    exact bodyPost_ret (v := .agg #[.int .i64 0, .int .i64 (24 - (l : Int))]) (by simp [results, Try.results35, go_sem, m0, m1]) rfl ⟨rfl, ((HB.out.setCell (by simp) _).setCell (by simp) _).trans (BA.mono (by simp; omega))⟩
  · have hv2 : vv = 0 := by rw [← HVV.out, if_neg h0]
    subst hv2
    go_wp2
    have BA := below_alloc ((w1.setCell ⟨w.heap.size + 1, 0, none⟩ (.int .i64 z)).setCell ⟨w.heap.size + 1, 1, none⟩ (.int .i64 0)) (.cells #[.int .i64 z, .int .i64 s, .int .i64 t, .slice a1 l k1] 66)
    have m0 := cell_later BA (a := ⟨w.heap.size + 1, 0, none⟩) (v := .int .i64 z) (by simp [go_sem, q0])
    have m1 := cell_later BA (a := ⟨w.heap.size + 1, 1, none⟩) (v := .int .i64 0) (by simp [go_sem, q1])
    exact bodyPost_ret (v := .agg #[.int .i64 z, .int .i64 0]) (by simp [results, Try.results35, go_sem, m0, m1]) rfl ⟨rfl, ((HB.out.setCell (by simp) _).setCell (by simp) _).trans (BA.mono (by simp; omega))⟩

set_option maxHeartbeats 1000000 in
set_option maxRecDepth 4000 in
theorem specRoomIn {S T : Nat → Prop} {w : World} {u v : Value} {xss : List (List Int)} {ps : List (Int × List Int)} (hu : RdII S w u xss) (hv : RdP T w v ps) (hs : Small xss ps) :
    Calls Try.prog 34 #[.agg #[u, v]] w fun e w' => e = .returned (.agg #[.int .i64 (inF xss ps), .int .i64 (rmV xss ps)]) ∧ Below w.heap.size w w' := by
  obtain ⟨ao, c, rfl, _⟩ := hu.shape
  obtain ⟨ao', c', rfl, _⟩ := hv.shape
  have HIn := hide (fun (w' : World) (hb : Below w.heap.size w w') => specHeaderIn (hu.later hb) (hv.later hb) hs)
  have HA24 : Hid (inF xss ps = 0 → (inA xss ps).length ≤ 24) := fun h => (headF_zero (in_ok h).2.2).2.1
  obtain ⟨n, hn⟩ : ∃ n, xss.length = n := ⟨_, rfl⟩
  obtain ⟨m, hm⟩ : ∃ m, ps.length = m := ⟨_, rfl⟩
  have A0 := hide (below_on (below_alloc w (.cells #[.slice ao n c, .slice ao' m c'] 33)) (below_alloc _ (.cells #[.int .i64 0, .int .i64 0] 50)))
  unfold rmV
  rw [hn, hm] at HIn
  rw [hn, hm]
  clear hu hv hs hn hm
  generalize inA xss ps = A at HIn HA24 ⊢
  generalize inS xss ps = s at HIn
  generalize inT xss ps = t at HIn
  generalize inF xss ps = z at HIn HA24 ⊢
  obtain ⟨l, hl⟩ : ∃ l, A.length = l := ⟨_, rfl⟩
  have HL := hide hl
  rw [hl] at HA24 ⊢
  clear hl
  obtain ⟨vv, hvv⟩ : ∃ vv : Int, (if z = 0 then 24 - (l : Int) else 0) = vv := ⟨_, rfl⟩
  rw [hvv]
  have HVV := hide hvv
  clear hvv
  go_enter Try.func34, Try.ntmps34
  go_wp2_with fail
  refine (HIn.out _ A0.out).mono ?_
  rintro e w1 ⟨z1, rfl, hb1, ho1⟩
  obtain ⟨a1, k1, hz1'⟩ := ho1.shape
  rw [HL.out] at hz1'
  subst hz1'
  have q0 : w1.cell? ⟨w.heap.size + 1, 0, none⟩ = some (.int .i64 0) := cell_later hb1 (by simp [go_sem])
  have q1 : w1.cell? ⟨w.heap.size + 1, 1, none⟩ = some (.int .i64 0) := cell_later hb1 (by simp [go_sem])
  have f0 : w1.frozen? ⟨w.heap.size + 1, 0, none⟩ = false := ((bcell hb1).2 _ _ (by simp)).trans (by simp [go_sem])
  have f1 : w1.frozen? ⟨w.heap.size + 1, 1, none⟩ = false := ((bcell hb1).2 _ _ (by simp)).trans (by simp [go_sem])
  have hlt : w.heap.size + 1 < w1.heap.size := World.block_lt_of_cell? _ _ q0
  have HB := hide (below_on A0.out hb1)
  clear hb1 ho1
  by_cases h0 : z = 0
  · have hl24 := HA24.out h0
    subst h0
    have hv2 : vv = 24 - (l : Int) := by rw [← HVV.out, if_pos rfl]
    subst hv2
    have hwr : IntKind.i64.wrap (24 - (l : Int)) = 24 - (l : Int) := by simp [IntKind.wrap, IntKind.bits, IntKind.signed]; omega
    go_wp2
    have BA := below_alloc ((w1.setCell ⟨w.heap.size + 1, 0, none⟩ (.int .i64 0)).setCell ⟨w.heap.size + 1, 1, none⟩ (.int .i64 (24 - (l : Int)))) (.cells #[.int .i64 0, .int .i64 s, .int .i64 t, .slice a1 l k1] 66)
    have m0 := cell_later BA (a := ⟨w.heap.size + 1, 0, none⟩) (v := .int .i64 0) (by simp [go_sem, q0])
    have m1 := cell_later BA (a := ⟨w.heap.size + 1, 1, none⟩) (v := .int .i64 (24 - (l : Int))) (by simp [go_sem, q1])
    exact bodyPost_ret (v := .agg #[.int .i64 0, .int .i64 (24 - (l : Int))]) (by simp [results, Try.results34, go_sem, m0, m1]) rfl ⟨rfl, ((HB.out.setCell (by simp) _).setCell (by simp) _).trans (BA.mono (by simp; omega))⟩
  · have hv2 : vv = 0 := by rw [← HVV.out, if_neg h0]
    subst hv2
    go_wp2
    have BA := below_alloc ((w1.setCell ⟨w.heap.size + 1, 0, none⟩ (.int .i64 z)).setCell ⟨w.heap.size + 1, 1, none⟩ (.int .i64 0)) (.cells #[.int .i64 z, .int .i64 s, .int .i64 t, .slice a1 l k1] 66)
    have m0 := cell_later BA (a := ⟨w.heap.size + 1, 0, none⟩) (v := .int .i64 z) (by simp [go_sem, q0])
    have m1 := cell_later BA (a := ⟨w.heap.size + 1, 1, none⟩) (v := .int .i64 0) (by simp [go_sem, q1])
    exact bodyPost_ret (v := .agg #[.int .i64 z, .int .i64 0]) (by simp [results, Try.results34, go_sem, m0, m1]) rfl ⟨rfl, ((HB.out.setCell (by simp) _).setCell (by simp) _).trans (BA.mono (by simp; omega))⟩

end Go.Proofs.Ytdjdfkhgkadhgaa
