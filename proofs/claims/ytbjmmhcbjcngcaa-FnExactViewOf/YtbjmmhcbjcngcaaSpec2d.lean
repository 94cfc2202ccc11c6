/- Chapter 2, the model's side: 'spec.UnpackHeader', walked. -/
import Derived.Test.YtbjmmhcbjcngcaaSpec2c
namespace Go.Proofs.Ytbjmmhcbjcngcaa
open Go.RowKit

/-- What a call that ends in a code and a header is to leave. -/
def EndsH (x s t : Int) (xs : List Int) (w : World) (e : Ending) (w' : World) : Prop :=
  ∃ z, e = .returned (.agg #[.int .i64 x, .int .i64 s, .int .i64 t, z]) ∧ Below w.heap.size w w' ∧ OwI w.heap.size w' z xs

def okUb (ws : List Int) : Bool := decide (ws.length = 64) && (decide (ws.getD 2 0 ≤ 24) && (decide (headF (ws.getD 0 0) (ws.getD 1 0) (addrsOf ws) = 0) && decide (packL (ws.getD 0 0) (ws.getD 1 0) (addrsOf ws) = ws)))
theorem okUb_iff (ws : List Int) : okUb ws = true ↔ okU ws := by
  unfold okUb okU
  simp only [Bool.and_eq_true, decide_eq_true_iff]

/-- What comes of words: the code, and what the header tells. -/
def unpF (ws : List Int) : Int := if wordsF ws = 0 then (if okUb ws = true then 0 else 5) else wordsF ws
def unpS (ws : List Int) : Int := if unpF ws = 0 then ws.getD 0 0 else 0
def unpT (ws : List Int) : Int := if unpF ws = 0 then ws.getD 1 0 else 0
def unpA (ws : List Int) : List Int := if unpF ws = 0 then addrsOf ws else []

/-- The end of a function that stores a code and a header into its result's variable. -/
theorem ret_head {w w3 : World} {B r : Nat} {z x s t : Value} {xs : List Int} (hb : Below w.heap.size w w3) (hr : w.heap.size ≤ r) (ho : OwI B w3 z xs) (hB : r < B) (hB2 : w.heap.size ≤ B) :
    Below w.heap.size w ((((w3.setCell ⟨r, 0, none⟩ x).setCell ⟨r, 1, none⟩ s).setCell ⟨r, 2, none⟩ t).setCell ⟨r, 3, none⟩ z) ∧ OwI w.heap.size ((((w3.setCell ⟨r, 0, none⟩ x).setCell ⟨r, 1, none⟩ s).setCell ⟨r, 2, none⟩ t).setCell ⟨r, 3, none⟩ z) z xs := by
  have hw : Wr (fun y => y = r) w3 ((((w3.setCell ⟨r, 0, none⟩ x).setCell ⟨r, 1, none⟩ s).setCell ⟨r, 2, none⟩ t).setCell ⟨r, 3, none⟩ z) := ((((Wr.refl (fun y => y = r) _).setCell (p := ⟨r, 0, none⟩) rfl _).setCell (p := ⟨r, 1, none⟩) rfl _).setCell (p := ⟨r, 2, none⟩) rfl _).setCell (p := ⟨r, 3, none⟩) rfl _
  exact ⟨(((hb.setCell (p := ⟨r, 0, none⟩) hr _).setCell (p := ⟨r, 1, none⟩) hr _).setCell (p := ⟨r, 2, none⟩) hr _).setCell (p := ⟨r, 3, none⟩) hr _, (ho.wr hw (fun b h1 _ e => by omega)).mono hB2⟩

set_option maxHeartbeats 2000000 in
set_option maxRecDepth 4000 in
theorem specUnpack {S : Nat → Prop} {w : World} {y : Value} {ws : List Int} (hy : RdI S w y ws) :
    Calls Try.prog 62 #[y] w (EndsH (unpF ws) (unpS ws) (unpT ws) (unpA ws) w) := by
  unfold EndsH unpS unpT unpA
  have HY := hide hy
  obtain ⟨ay, cy, rfl⟩ := hy.shape
  obtain ⟨n, hn⟩ : ∃ n, ws.length = n := ⟨_, rfl⟩
  rw [hn] at HY ⊢
  clear hy hn
  have A0 := hide (below_alloc w (.cells #[.int .i64 0, .int .i64 0, .int .i64 0, .slice none 0 0] 61))
  obtain ⟨z, hz⟩ : ∃ z, wordsF ws = z := ⟨_, rfl⟩
  have HZ := hide hz
  by_cases h0 : z = 0
  · subst h0
    obtain ⟨ok, hok⟩ : ∃ ok, okUb ws = ok := ⟨_, rfl⟩
    have HOk := hide hok
    obtain ⟨c, hc⟩ : ∃ c, unpF ws = c := ⟨_, rfl⟩
    have HC := hide hc
    have HC2 : Hid (c = if ok = true then 0 else 5) := by unfold Hid; rw [← hc]; unfold unpF; rw [if_pos hz, hok]
    obtain ⟨s0, hs0⟩ : ∃ s0, (if unpF ws = 0 then ws.getD 0 0 else 0) = s0 := ⟨_, rfl⟩
    obtain ⟨t0, ht0⟩ : ∃ t0, (if unpF ws = 0 then ws.getD 1 0 else 0) = t0 := ⟨_, rfl⟩
    obtain ⟨a0, ha0⟩ : ∃ a0, (if unpF ws = 0 then addrsOf ws else []) = a0 := ⟨_, rfl⟩
    rw [hs0, ht0, ha0, hc]
    have HS0 := hide hs0
    have HT0 := hide ht0
    have HA0 := hide ha0
    clear hs0 ht0 ha0 hc hok hz
    go_enter Try.func62, Try.ntmps62
    go_wp2_with fail
    refine (l1Words (HY.out.later A0.out)).mono ?_
    rintro e w1 ⟨he, q, rfl⟩
    rw [HZ.out] at he
    subst he
    go_wp2_with fail
    refine (l2Unpack (HY.out.later (below_on A0.out (below_drewN _ q))) HZ.out).mono ?_
    rintro e w2 ⟨s, t, z2, ad, ok2, rfl, hb2, ho2, hl2, hiff, hval⟩
    obtain ⟨az, cz, rfl⟩ := ho2.shape
    obtain ⟨l, hl⟩ : ∃ l, ad.length = l := ⟨_, rfl⟩
    rw [hl] at ho2 ⊢
    have v0 : w2.cell? ⟨w.heap.size, 0, none⟩ = some (.int .i64 0) := cell_later hb2 (by simp [go_sem])
    have v1 : w2.cell? ⟨w.heap.size, 1, none⟩ = some (.int .i64 0) := cell_later hb2 (by simp [go_sem])
    have v2 : w2.cell? ⟨w.heap.size, 2, none⟩ = some (.int .i64 0) := cell_later hb2 (by simp [go_sem])
    have v3 : w2.cell? ⟨w.heap.size, 3, none⟩ = some (.slice none 0 0) := cell_later hb2 (by simp [go_sem])
    have f : ∀ o, w2.frozen? ⟨w.heap.size, o, none⟩ = false := fun o => ((bcell hb2).2 _ _ (by simp)).trans (by simp [go_sem])
    have hsz : w.heap.size < w2.heap.size := by have := hb2.size; simp at this; omega
    have y0 := f 0
    have y1 := f 1
    have y2 := f 2
    have y3 := f 3
    have HB := hide (below_on A0.out (below_on (below_drewN _ q) hb2))
    have HO : Hid (OwI (w.heap.size + 1) w2 (.slice az l cz) ad) := ho2.mono (by simp)
    have HIff := hide hiff
    have HVal := hide hval
    clear hb2 ho2 f hiff hval hl
    have hokk : ok2 = ok := by
      have h1 := HIff.out
      have h2 := okUb_iff ws
      rw [HOk.out] at h2
      cases ok2 <;> cases ok <;> simp_all
    subst hokk
    cases ok2 with
    | true =>
      have hc0 : c = 0 := by rw [HC2.out]; rfl
      subst hc0
      obtain ⟨e1, e2, e3⟩ := HVal.out rfl
      have hs : s0 = s := by rw [← HS0.out, if_pos HC.out, e1]
      have ht : t0 = t := by rw [← HT0.out, if_pos HC.out, e2]
      have ha : a0 = ad := by rw [← HA0.out, if_pos HC.out, e3]
      subst hs ht ha
      clear e1 e2 e3
      go_wp2
      have hfin := ret_head (x := .int .i64 0) (s := .int .i64 s0) (t := .int .i64 t0) HB.out (r := w.heap.size) (Nat.le_refl _) HO.out (by omega) (by omega)
      have BA := below_alloc ((((w2.setCell ⟨w.heap.size, 0, none⟩ (.int .i64 0)).setCell ⟨w.heap.size, 1, none⟩ (.int .i64 s0)).setCell ⟨w.heap.size, 2, none⟩ (.int .i64 t0)).setCell ⟨w.heap.size, 3, none⟩ (.slice az l cz)) (.cells #[.int .i64 s0, .int .i64 t0, .slice az l cz] 59)
      have m0 := cell_later BA (a := ⟨w.heap.size, 0, none⟩) (v := .int .i64 0) (by simp [go_sem, v0])
      have m1 := cell_later BA (a := ⟨w.heap.size, 1, none⟩) (v := .int .i64 s0) (by simp [go_sem, v1])
      have m2 := cell_later BA (a := ⟨w.heap.size, 2, none⟩) (v := .int .i64 t0) (by simp [go_sem, v2])
      have m3 := cell_later BA (a := ⟨w.heap.size, 3, none⟩) (v := .slice az l cz) (by simp [go_sem, v3])
      exact bodyPost_ret (v := .agg #[.int .i64 0, .int .i64 s0, .int .i64 t0, .slice az l cz]) (by simp [results, Try.results62, go_sem, m0, m1, m2, m3]) rfl ⟨_, rfl, hfin.1.trans (BA.mono (by simp; omega)), hfin.2.later BA⟩
    | false =>
      have hc5 : c = 5 := by rw [HC2.out]; rfl
      subst hc5
      have hs : s0 = 0 := by rw [← HS0.out, if_neg (by rw [HC.out]; decide)]
      have ht : t0 = 0 := by rw [← HT0.out, if_neg (by rw [HC.out]; decide)]
      have ha : a0 = [] := by rw [← HA0.out, if_neg (by rw [HC.out]; decide)]
      subst hs ht ha
      go_wp2
      have BA := below_alloc ((((w2.setCell ⟨w.heap.size, 0, none⟩ (.int .i64 5)).setCell ⟨w.heap.size, 1, none⟩ (.int .i64 0)).setCell ⟨w.heap.size, 2, none⟩ (.int .i64 0)).setCell ⟨w.heap.size, 3, none⟩ (.slice none 0 0)) (.cells #[.int .i64 s, .int .i64 t, .slice az l cz] 59)
      have m0 := cell_later BA (a := ⟨w.heap.size, 0, none⟩) (v := .int .i64 5) (by simp [go_sem, v0])
      have m1 := cell_later BA (a := ⟨w.heap.size, 1, none⟩) (v := .int .i64 0) (by simp [go_sem, v1])
      have m2 := cell_later BA (a := ⟨w.heap.size, 2, none⟩) (v := .int .i64 0) (by simp [go_sem, v2])
      have m3 := cell_later BA (a := ⟨w.heap.size, 3, none⟩) (v := .slice none 0 0) (by simp [go_sem, v3])
      have hfin := ret_head (x := .int .i64 5) (s := .int .i64 0) (t := .int .i64 0) HB.out (r := w.heap.size) (Nat.le_refl _) (OwI_nil (w.heap.size + 1) w2) (by omega) (by omega)
      exact bodyPost_ret (v := .agg #[.int .i64 5, .int .i64 0, .int .i64 0, .slice none 0 0]) (by simp [results, Try.results62, go_sem, m0, m1, m2, m3]) rfl ⟨_, rfl, hfin.1.trans (BA.mono (by simp; omega)), OwI_nil _ _⟩
  · have hc : unpF ws = z := by unfold unpF; rw [if_neg (by rw [hz]; exact h0), hz]
    rw [hc, if_neg h0, if_neg h0, if_neg h0]
    clear hz hc
    go_enter Try.func62, Try.ntmps62
    go_wp2_with fail
    refine (l1Words (HY.out.later A0.out)).mono ?_
    rintro e w1 ⟨he, q, rfl⟩
    rw [HZ.out] at he
    subst he
    have HB := hide (below_on A0.out (below_drewN _ q))
    go_wp2
    refine bodyPost_ret (v := .agg #[.int .i64 z, .int .i64 0, .int .i64 0, .slice none 0 0]) (by simp [results, Try.results62, go_sem]) rfl ⟨_, rfl, ?_, OwI_nil _ _⟩
    repeat (first | refine Below.setCell ?_ (by first | (simp; done) | (simp; omega) | omega) _ | exact HB.out)
end Go.Proofs.Ytbjmmhcbjcngcaa
