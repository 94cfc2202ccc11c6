/- Chapter 6: what is free is cleared; 'FreeLocks' of both sides, walked. -/
import Derived.Test.YtkpkoapcmnapoabLkOwn2
import Derived.Test.YtkpkoapcmnapoabLkHeld2
namespace Go.Proofs.Ytkpkoapcmnapoab
open Go.RowKit Go.Maps Go.Shelf Go.MapKept

/-- 'clear' of a map. -/
theorem clearL {w : World} {b n : Nat} {D : DataW Value} (h : w.ownsMap Try.prog 63 asV b n D) :
    ∃ w', (∀ ty, (Builtin.clear_ #[52] ty #[.map (some b)]).run Try.prog w = .ok (.tuple #[]) w') ∧ w'.ownsMap Try.prog 63 asV b n (.map []) ∧ w.grownBy w' (some b) := by
  obtain ⟨es, clock, hb, F, hs, _⟩ := h
  refine ⟨_, fun ty => by simp [Builtin.clear_, run_underlying Try.underlying52, MapKept.run_getObj_map hb, MapKept.run_setObj_map _ hb, Result.andThen]; rfl, ?_, ?_⟩
  · exact ⟨#[], clock, (heap_set hb).1, ⟨by simp, stamped_empty clock, by simp⟩, Nat.zero_le _, rfl⟩
  · exact ⟨rfl, rfl, rfl, by simp, fun i _ hi => (heap_set hb).2 i (fun e => hi (by rw [e]))⟩
theorem clear_nil (w : World) (ty : TypeId) : (Builtin.clear_ #[52] ty #[.map none]).run Try.prog w = .ok (.tuple #[]) w := by
  simp [Builtin.clear_, run_underlying Try.underlying52, Result.andThen]
/-- All that t has is gone. -/
def gone (f : Int → Int) (t : Int) : Int → Int := fun a => if f a = t then 0 else f a
theorem HeldD.cleared {w w' : World} {base h n : Nat} {f : Int → Int} {K : Int → Prop} {D : DataW Value} {B : Int → Nat} {t : Int} (H : HeldD w base h n f K D B) (hK : K t)
    (hown : w'.ownsMap Try.prog 63 asV (B t) n (.map [])) (hg : w.grownBy w' (some (B t))) : HeldD w' base h n (gone f t) K D B := by
  have ht := H.txn t hK
  refine ⟨H.own.kept hg (fun e => (H.locks t hK).1 (Option.some.inj e).symm), H.has, H.at_, fun x hx => ⟨(H.locks x hx).1, (H.locks x hx).2.1, ?_⟩, H.apart, H.txn, H.low, fun a ha => ?_⟩
  · by_cases e : x = t
    · subst e
      have no : ∀ a, ¬ gone f x a = x := fun a => by
        unfold gone
        by_cases e1 : f a = x
        · rw [if_pos e1]; omega
        · rw [if_neg e1]; exact e1
      exact ⟨_, hown, fun a _ => ⟨fun hh => absurd hh (by simp [has_eq]), fun hh => absurd hh (no a)⟩, fun a ha => absurd ha (no a)⟩
    · refine ((H.locks x hx).2.2.kept hg (fun e1 => e (H.apart x t hx hK (Option.some.inj e1)))).congr fun a => ?_
      unfold gone
      have := H.txn x hx
      by_cases e1 : f a = t
      · rw [if_pos e1, e1]
        constructor
        · intro h; exact absurd h.symm e
        · intro h; omega
      · rw [if_neg e1]
  · unfold gone at ha ⊢
    by_cases e1 : f a = t
    · rw [if_pos e1] at ha; exact absurd rfl ha
    · rw [if_neg e1] at ha ⊢; exact H.some_ a ha
/-- What 'FreeLocks' answers. -/
def frL (os : List Wn) (t : Int) : List Wn := os.filter (fun o => o.2 != t)
def frC (os : List Wn) (t : Int) : Int := hbC os t
def frR (os : List Wn) (t : Int) : List Wn := if hbC os t = 0 then frL os t else []
theorem frL_len (os : List Wn) (t : Int) : (frL os t).length ≤ os.length := List.length_filter_le _ _
theorem frR_len (os : List Wn) (t : Int) : (frR os t).length ≤ 1048576 := by
  unfold frR
  by_cases h : hbC os t = 0
  · rw [if_pos h]
    have := (own_of (hbC_ok h).1).len
    have := frL_len os t
    omega
  · rw [if_neg h]; simp
theorem frL_up {os : List Wn} (h : Own os) (t : Int) : (frL os t).Pairwise (fun x y => x.1 < y.1) := (own_pair h).filter _
theorem frL_mem {os : List Wn} (h : Own os) (t : Int) (o : Wn) : o ∈ frL os t ↔ (gone (ownr os) t o.1 = o.2 ∧ o.2 ≠ 0) := by
  unfold frL
  rw [List.mem_filter]
  constructor
  · rintro ⟨h1, h2⟩
    have hm := own_mem h h1
    have hne : o.2 ≠ 0 := by omega
    have hr := (ownr_iff h hne).2 (show (o.1, o.2) ∈ os from h1)
    refine ⟨?_, hne⟩
    unfold gone
    rw [hr, if_neg (by simpa using h2)]
  · rintro ⟨h1, h2⟩
    unfold gone at h1
    by_cases e : ownr os o.1 = t
    · rw [if_pos e] at h1; exact absurd h1.symm h2
    · rw [if_neg e] at h1
      exact ⟨(ownr_iff h h2).1 h1, by rw [← h1]; simpa using e⟩
/-- A code with owners in a variable's two cells, behind the stores. -/
theorem ret_owns {w w3 : World} {B r : Nat} {z : Value} {xs : List Wn} {x : Value} (hb : Below w.heap.size w w3) (hr : w.heap.size ≤ r) (ho : OwO B w3 z xs) (hB : r < B) :
    Below w.heap.size w ((w3.setCell ⟨r, 0, none⟩ x).setCell ⟨r, 1, none⟩ z) ∧ OwO w.heap.size ((w3.setCell ⟨r, 0, none⟩ x).setCell ⟨r, 1, none⟩ z) z xs :=
  ⟨(hb.setCell hr _).setCell hr _, (ho.wr (((Wr.refl (· = r) w3).setCell (p := ⟨r, 0, none⟩) rfl _).setCell (p := ⟨r, 1, none⟩) rfl _) (fun b h1 _ e => by subst e; omega)).mono (by omega)⟩

set_option maxHeartbeats 2000000 in
set_option maxRecDepth 4000 in
theorem implFreeLocks {S : Nat → Prop} {w : World} {v : Value} {os : List Wn} (t : Int) (hv : RdO S w v os) :
    Calls Try.prog 11 #[v, .int .i64 t] w (EndsO (frC os t) (frR os t) w) := by
  obtain ⟨ao, c, rfl⟩ := hv.shape
  have HV := hide hv
  obtain ⟨m, hm⟩ : ∃ m, os.length = m := ⟨_, rfl⟩
  rw [hm] at HV ⊢
  clear hv hm
  obtain ⟨r, hr⟩ : ∃ r, decide (0 < t ∧ t ≤ 99) = r := ⟨_, rfl⟩
  have HRr := hide hr
  have HZ : Hid ((if ownF os ≠ 0 then ownF os else if r = true then 0 else 3) = hbC os t) := by
    unfold Hid hbC
    rw [← hr]
    simp
  clear hr
  unfold frC
  obtain ⟨z, hz⟩ : ∃ z, hbC os t = z := ⟨_, rfl⟩
  have HOk := hide (@hbC_ok os t)
  obtain ⟨R, hR⟩ : ∃ R, frR os t = R := ⟨_, rfl⟩
  have HR := hide hR
  unfold frR at HR
  rw [hz] at HZ HOk HR ⊢
  rw [hR]
  clear hz hR
  by_cases hz0 : z = 0
  · subst hz0
    obtain ⟨h0, ht1, ht2⟩ := HOk.out rfl
    have HOw := hide (own_of h0)
    have HRe : Hid (frL os t = R) := by have := HR.out; rw [if_pos rfl] at this; exact this
    have HT := hide (show 0 < t ∧ t ≤ 99 from ⟨ht1, ht2⟩)
    clear h0 ht1 ht2 HR HOk
    go_enter Try.func11, Try.ntmps11
    go_wp2_with fail
    refine (isTxnB t _).mono ?_
    rintro e w1 ⟨he, rfl⟩
    rw [HRr.out] at he
    subst he
    go_wp2_with fail
    refine (askFaultL r (HV.out.later (below_alloc _ _))).mono ?_
    rintro e w2 ⟨he, hb⟩
    rw [HZ.out] at he
    subst he
    have HB2 := hide (below_on (below_alloc _ _) hb)
    have c0 : w2.cell? ⟨w.heap.size, 0, none⟩ = some (.int .i64 0) := cell_later hb (by simp [go_sem])
    have c1 : w2.cell? ⟨w.heap.size, 1, none⟩ = some (.slice none 0 0) := cell_later hb (by simp [go_sem])
    have f0 : ∀ o, w2.frozen? ⟨w.heap.size, o, none⟩ = false := fun o => ((bcell hb).2 _ _ (by simp)).trans (by simp [go_sem])
    have hw2 : w.heap.size < w2.heap.size := World.block_lt_of_cell? _ _ c0
    clear hb
    go_wp2_with fail
    refine (heldInL (HV.out.later HB2.out) HOw.out).mono ?_
    rintro e w3 ⟨h, rfl, hb, hd⟩
    obtain ⟨D, B, hd⟩ := hd
    have hz3 := hb.size
    have tail : Hid (∃ (x : Option Nat) (w4 : World), (Instr.lookup 46 (.map (some h)) (.agg #[.int .i64 t]) false).run Try.prog w3 = .ok (.map x) w3 ∧ (∀ ty, (Builtin.clear_ #[52] ty #[.map x]).run Try.prog w3 = .ok (.tuple #[]) w4) ∧ Below w2.heap.size w2 w4 ∧ HeldAt w4 w2.heap.size h (2 * os.length) (gone (ownr os) t) (holds os)) := by
      have hT := HT.out
      by_cases hK : holds os t
      · obtain ⟨D2, hD2⟩ := (hd.locks t hK).2.2
        obtain ⟨w4, hc, hown, hg⟩ := clearL hD2.1
        exact ⟨some (B t), w4, hd.look hK, hc, hb.grown hg hz3 (fun j hj => by injection hj with hj; have := (hd.locks t hK).2.1; omega), D, B, hd.cleared hK hown hg⟩
      · refine ⟨none, w3, hd.look_no (wfI_of (by omega) (by omega)) hK, fun ty => clear_nil w3 ty, hb, D, B, ?_⟩
        have e : gone (ownr os) t = ownr os := by
          funext a
          unfold gone
          by_cases e1 : ownr os a = t
          · exact absurd (e1 ▸ (hd.some_ a (by omega)).1) hK
          · rw [if_neg e1]
        rw [e]
        exact hd
    obtain ⟨x, w4, hlook, hclr, hb4, hd4⟩ := tail.out
    have hz4 := hb4.size
    have HB4 := hide (below_on HB2.out hb4)
    have d0 := cell_later hb4 c0
    have d1 := cell_later hb4 c1
    have f1 : ∀ o, w4.frozen? ⟨w.heap.size, o, none⟩ = false := fun o => ((bcell hb4).2 _ _ (World.block_lt_of_cell? _ _ c0)).trans (f0 o)
    have HOwn : Hid (Calls Try.prog 21 #[.map (some h)] w4 fun e w' => ∃ z, e = .returned z ∧ Below w4.heap.size w4 w' ∧ OwO w4.heap.size w' z R) := by
      refine ownersL hd4 (by have := HOw.out.len; omega) ?_ ?_
      · rw [← HRe.out]; exact frL_up HOw.out t
      · intro o; rw [← HRe.out]; exact frL_mem HOw.out t o
    clear tail hb hd hb4 hd4 c0 c1 f0 HB2 hz3
    go_wp2_with fail
    refine HOwn.out.mono ?_
    rintro e w5 ⟨zz, rfl, hb, ho⟩
    obtain ⟨az, cz, rfl⟩ := ho.shape
    have HB5 := hide (below_on HB4.out hb)
    have c0 := cell_later hb d0
    have c1 := cell_later hb d1
    have F0 := ((bcell hb).2 _ 0 (World.block_lt_of_cell? _ _ d0)).trans (f1 0)
    have F1 := ((bcell hb).2 _ 1 (World.block_lt_of_cell? _ _ d0)).trans (f1 1)
    have HO := hide ho
    clear hb d0 d1 f1 HB4 hlook hclr ho
    have HF := hide (ret_owns (x := .int .i64 0) HB5.out (Nat.le_refl _) HO.out (by omega))
    go_wp2
    refine bodyPost_ret (v := .agg #[.int .i64 0, .slice az R.length cz]) (by simp [results, Try.results11, go_sem, c0, c1]) rfl ⟨_, rfl, HF.out.1, HF.out.2⟩
  · have HRe : Hid ([] = R) := by have := HR.out; rw [if_neg hz0] at this; exact this
    have hRe := HRe.out
    subst hRe
    clear HR HOk HRe
    go_enter Try.func11, Try.ntmps11
    go_wp2_with fail
    refine (isTxnB t _).mono ?_
    rintro e w1 ⟨he, rfl⟩
    rw [HRr.out] at he
    subst he
    go_wp2_with fail
    refine (askFaultL r (HV.out.later (below_alloc _ _))).mono ?_
    rintro e w2 ⟨he, hb⟩
    rw [HZ.out] at he
    subst he
    have HB2 := hide (below_on (below_alloc _ _) hb)
    have c0 : w2.cell? ⟨w.heap.size, 0, none⟩ = some (.int .i64 0) := cell_later hb (by simp [go_sem])
    have c1 : w2.cell? ⟨w.heap.size, 1, none⟩ = some (.slice none 0 0) := cell_later hb (by simp [go_sem])
    have F0 : w2.frozen? ⟨w.heap.size, 0, none⟩ = false := ((bcell hb).2 _ _ (by simp)).trans (by simp [go_sem])
    have F1 : w2.frozen? ⟨w.heap.size, 1, none⟩ = false := ((bcell hb).2 _ _ (by simp)).trans (by simp [go_sem])
    clear hb
    go_wp2
    refine bodyPost_ret (v := .agg #[.int .i64 z, .slice none 0 0]) (by simp [results, Try.results11, go_sem, c0, c1]) rfl ⟨_, rfl, ?_, OwO_nil _ _⟩
    exact (HB2.out.setCell (Nat.le_refl _) _).setCell (Nat.le_refl _) _
end Go.Proofs.Ytkpkoapcmnapoab
