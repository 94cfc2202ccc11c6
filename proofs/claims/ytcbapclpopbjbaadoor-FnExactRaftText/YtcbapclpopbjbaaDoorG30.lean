/- TxS in one text: what each says stands at its head below. -/
import Derived.Test.YtcbapclpopbjbaaDoorG29
/- The text of a store: 'spec.RaftText'. Made by program (gentxi.py). -/
namespace Go.Proofs.YtcbapclpopbjbaaDoor
open Go.RowKit

/-- What the answer tells. -/
def txV (r : Rf) : ByteArray := if rfF r = 0 then str (raftT r) else { data := #[] }
set_option maxRecDepth 4000 in
set_option maxHeartbeats 2000000 in
theorem specRaftText {S T : Nat → Prop} {w : World} {y z : Value} (r : Rf) (hy : RdI S w y r.sn) (hz : RdJ T w z r.lg) :
    Calls Tryd.prog 18 #[.agg #[.int .i64 r.tm, .int .i64 r.vt, .int .i64 r.si, .int .i64 r.st, y, z]] w fun e w' => e = .returned (.agg #[.int .i64 (rfF r), .string (txV r)]) ∧ Below w.heap.size w w' := by
  have b0 := below_alloc w (.cells #[.int .i64 r.tm, .int .i64 r.vt, .int .i64 r.si, .int .i64 r.st, y, z] 49)
  have b1 := below_alloc (w.alloc (.cells #[.int .i64 r.tm, .int .i64 r.vt, .int .i64 r.si, .int .i64 r.st, y, z] 49)) (.cells #[.int .i64 0, .string { data := #[] }] 35)
  have V := (Var6_new w (.int .i64 r.tm) (.int .i64 r.vt) (.int .i64 r.si) (.int .i64 r.st) y z 49).later b1
  have HF := hide (l10Fault r V (hy.later (below_on b0 b1)) (hz.later (below_on b0 b1)))
  have HT := hide (fun (h : rfF r = 0) (w' : World) hb => specRaftT r (V.later (w' := w') hb) ((hy.later (below_on b0 b1)).later hb) ((hz.later (below_on b0 b1)).later hb) (txOk h))
  have HB := hide (below_on b0 b1)
  obtain ⟨ay, cy, rfl⟩ := hy.shape
  obtain ⟨az, cz, rfl, _⟩ := hz.shape
  have HX := hide (show txV r = if rfF r = 0 then str (raftT r) else { data := #[] } from rfl)
  generalize txV r = X at *
  generalize rfF r = f at *
  generalize raftT r = R at *
  have k0 : ((w.alloc (.cells #[.int .i64 r.tm, .int .i64 r.vt, .int .i64 r.si, .int .i64 r.st, .slice ay r.sn.length cy, .slice az r.lg.length cz] 49)).alloc (.cells #[.int .i64 0, .string { data := #[] }] 35)).cell? ⟨w.heap.size + 1, 0, none⟩ = some (.int .i64 0) := by simp [go_sem]
  have k1 : ((w.alloc (.cells #[.int .i64 r.tm, .int .i64 r.vt, .int .i64 r.si, .int .i64 r.st, .slice ay r.sn.length cy, .slice az r.lg.length cz] 49)).alloc (.cells #[.int .i64 0, .string { data := #[] }] 35)).cell? ⟨w.heap.size + 1, 1, none⟩ = some (.string { data := #[] }) := by simp [go_sem]
  have k2 : ∀ o, ((w.alloc (.cells #[.int .i64 r.tm, .int .i64 r.vt, .int .i64 r.si, .int .i64 r.st, .slice ay r.sn.length cy, .slice az r.lg.length cz] 49)).alloc (.cells #[.int .i64 0, .string { data := #[] }] 35)).frozen? ⟨w.heap.size + 1, o, none⟩ = false := fun o => by simp [go_sem]
  clear V b0 b1 hy hz
  go_enter Tryd.func18, Tryd.ntmps18
  go_wp2_with fail
  refine HF.out.mono ?_
  rintro e w1 ⟨rfl, hb⟩
  have HT1 := hide (fun (h : f = 0) => HT.out h w1 hb)
  have HB1 := hide (below_on HB.out hb)
  have j0 := cell_later hb k0
  have j1 := cell_later hb k1
  have j2 : ∀ o, w1.frozen? ⟨w.heap.size + 1, o, none⟩ = false := fun o => ((bcell hb).2 _ _ (by simp)).trans (k2 o)
  have hr : w.heap.size ≤ w.heap.size + 1 := by omega
  clear hb HF HT k0 k1 k2 HB
  by_cases h0 : f = 0
  · subst h0
    have HX' : Hid (X = str R) := by rw [Hid, HX.out, if_pos rfl]
    go_wp2_with fail
    refine (HT1.out (by trivial)).mono ?_
    rintro e w2 ⟨rfl, hb⟩
    have i0 := cell_later hb j0
    have i1 := cell_later hb j1
    have i2 : ∀ o, w2.frozen? ⟨w.heap.size + 1, o, none⟩ = false := fun o => ((bcell hb).2 _ _ (World.block_lt_of_cell? _ _ j0)).trans (j2 o)
    have HB2 := hide (below_on HB1.out hb)
    clear hb HT1 j0 j1 j2
    go_wp2
    refine bodyPost_ret (v := .agg #[.int .i64 0, .string (str R)]) (by simp [results, Tryd.results18, go_sem, i0, i1]) rfl ⟨by rw [HX'.out], (HB2.out.setCell (by simp) _).setCell (by simp) _⟩
  · have HX' : Hid (X = { data := #[] }) := by rw [Hid, HX.out, if_neg h0]
    clear HT1
    go_wp2
    refine bodyPost_ret (v := .agg #[.int .i64 f, .string { data := #[] }]) (by simp [results, Tryd.results18, go_sem, j0, j1]) rfl ⟨by rw [HX'.out], (HB1.out.setCell (by simp) _).setCell (by simp) _⟩
end Go.Proofs.YtcbapclpopbjbaaDoor
