/- Chapter 2, the model's side: 'spec.l2Pack', 'spec.PackHeader', walked. -/
import Derived.Test.YtkdbkkhmaiomkaaSpec2
import Derived.Test.YtkdbkkhmaiomkaaIv
import Derived.Test.YtkdbkkhmaiomkaaRet
namespace Go.Proofs.Ytkdbkkhmaiomkaa
open Go.RowKit

/-- An append onto what the call itself has made, as one step of a region that draws its order. -/
theorem step_append_any {P : Program} (w : World) {ops : Array Oper} {o : Oper} {a : Act} {K : Act → World → Prop} {Q : Exit → Act → World → Prop} {E : Prop} (hgd : o.guard = none) (s x : Operand) (t : TypeId)
    (ho : o.op = .call { callee := .builtin .append, args := #[s, x], argTypes := #[t, t] })
    (base : Nat) (e : TypeId) (i : TypeInfo) (z : Value) (size bytes : Nat) (ht : P.underlying t = some (.slice e)) (hi : P.info? e = some i) (hz : i.zero = some z)
    (hsize : i.size = size) (hby : i.bytes = bytes) (hzs : z.cells.size = size) (hsz : 0 < size)
    (v : Value) (n : Nat) (xs : List Value) (hs : a.eval s = v) (hown : w.ownsRow base e size v n xs)
    (ao : Option Addr) (m c : Nat) (news : List Value) (hx : a.eval x = .slice ao m c) (hl : news.length = m * size)
    (hnews : m ≠ 0 → ∃ ad, ao = some ad ∧ ∀ j u, news[j]? = some u → w.cell? (ad.add j) = some u) (h1 : ∀ u ∈ news, u.oneCell' = true)
    (h63 : n + m ≤ maxLen) (hbytes : (n + m) * bytes ≤ 140737488355328) (hbase : base ≤ w.heap.size)
    (h : ∀ v' w', w'.ownsRow base e size v' (n + m) (xs ++ news) → w.grownBy w' v.ownBlock → K (a.put o.dst v') w') : if Region.wanted o (yielded ops a.tmps) = true then Oper.wp P o a w K Q else E := by
  have hw : Region.wanted o (yielded ops a.tmps) = true := by simp [Region.wanted, hgd]
  rw [if_pos hw]
  by_cases hm : m = 0
  · subst hm
    have hn : news = [] := List.eq_nil_of_length_eq_zero (by simpa using hl)
    subst hn
    have hv : ∃ ad k, v = .slice ad n k ∧ n ≤ k := by
      rcases hown.2 with ⟨rfl, rfl⟩ | ⟨g, cap, cur, rfl, _, _, hnc, _⟩
      · exact ⟨_, _, rfl, Nat.le_refl _⟩
      · exact ⟨_, _, rfl, hnc⟩
    obtain ⟨ad, k, rfl, hk⟩ := hv
    have hrun := run_append_zero (P := P) w t o.type e i ht hi ad n k hk ao c
    unfold Oper.wp
    simp [execOp, ho, resolve, invoke, builtin, hs, hx, hrun, Result.andThen]
    exact h _ w (by simpa using hown) (World.grownBy.refl _ _)
  · obtain ⟨ad, rfl, hc⟩ := hnews hm
    exact wp_append_own (P := P) w s x t ho base e i z size bytes ht hi hz hsize hby hzs hsz v n xs hs hown ad m c news hx hl hc h1 h63 hbytes hbase (fun v' w' k1 k2 _ => h v' w' k1 k2)

theorem ownsRow_full (w : World) (cs : List Value) (e : TypeId) (hm : cs.length ≤ 1048576) : (w.alloc (.cells cs.toArray e)).ownsRow w.heap.size e 1 (.slice (some ⟨w.heap.size, 0, none⟩) cs.length cs.length) cs.length cs :=
  ⟨by simp, .inr ⟨w.heap.size, cs.length, cs.toArray, rfl, Nat.le_refl _, heap_alloc_new w _, Nat.le_refl _, by unfold maxLen; omega, by simp, by simp⟩⟩

/-- One half of a header's words; all of them. -/
def packH (s t : Int) (xs : List Int) : List Int := [s, t, (xs.length : Int)] ++ xs ++ List.replicate (29 - xs.length) 0
def packL (s t : Int) (xs : List Int) : List Int := packH s t xs ++ packH s t xs
theorem packH_len {s t : Int} {xs : List Int} (h : xs.length ≤ 29) : (packH s t xs).length = 32 := by simp [packH]; omega
theorem packL_len {s t : Int} {xs : List Int} (h : xs.length ≤ 29) : (packL s t xs).length = 64 := by simp [packL, packH_len h]

set_option maxHeartbeats 4000000 in
set_option maxRecDepth 4000 in
theorem l2Pack {S : Nat → Prop} {w : World} {b o : Nat} {s t : Int} {y : Value} {xs : List Int} (hd : HdAt w b o s t y) (hy : RdI S w y xs) (hl : xs.length ≤ 29) :
    Calls Try.prog 26 #[.pointer (some ⟨b, o, none⟩)] w fun e w' => ∃ z, e = .returned z ∧ Below w.heap.size w w' ∧ OwI w.heap.size w' z (packL s t xs) := by
  have HY := hide hy
  obtain ⟨ay, cy, hsh, hsrc⟩ := hy.src
  subst hsh
  obtain ⟨i0, hi, hz0, hz1, hz2⟩ := info_parts Try.infoInt
  obtain ⟨n, hn⟩ : ∃ n, xs.length = n := ⟨_, rfl⟩
  have HN := hide hn
  rw [hn] at hd hl
  rw [hn] at hsrc
  have HSr := hide hsrc
  have c0 := hd.seq
  have c1 := hd.start
  have c2 := hd.addrs
  have hbl := World.block_lt_of_cell? _ _ c0
  clear hy hd hn hsrc
  go_enter Try.func26, Try.ntmps26
  go_wp2_with fail
  have BA := below_on (below_alloc w (.cells #[.int .i64 s, .int .i64 t, .int .i64 (n : Int)] 2)) (below_drewN _ 1)
  have OF := hide (ownsRow_full w [.int .i64 s, .int .i64 t, .int .i64 (n : Int)] 2 (by simp))
  have d0 := cell_later BA c0
  have d1 := cell_later BA c1
  have d2 := cell_later BA c2
  have HSr2 : Hid (n ≠ 0 → ∃ ad, ay = some ad ∧ ∀ j u, (xs.map (Value.int .i64))[j]? = some u → ((w.alloc (.cells #[.int .i64 s, .int .i64 t, .int .i64 (n : Int)] 2)).drewN 1).cell? (ad.add j) = some u) := fun hne => by obtain ⟨ad, e, hc⟩ := HSr.out hne; exact ⟨ad, e, fun j u hu => cell_later BA (hc j u hu)⟩
  go_region_held3 (fun w' => w'.cell? ⟨b, o, none⟩ = some (.int .i64 s) ∧ w'.cell? ⟨b, o + 1, none⟩ = some (.int .i64 t) ∧ w'.cell? ⟨b, o + 2, none⟩ = some (.slice ay n cy)) (first | exact ⟨c0, c1, c2⟩ | exact ⟨d0, d1, d2⟩ | exact ⟨s0, s1, s2⟩)
    (first | (refine step_append_any _ (by rfl) _ _ _ (by rfl) w.heap.size 2 i0 (.int .i64 0) 1 8 Try.underlying26 hi hz0 hz1 hz2 rfl (by omega) (.slice (some ⟨w.heap.size, 0, none⟩) 3 3) 3 [.int .i64 s, .int .i64 t, .int .i64 (n : Int)] (by rfl) OF.out ay n cy (xs.map (Value.int .i64)) (by rfl) (by simp [HN.out]) HSr2.out (ints_oneCell _ _) (by unfold maxLen; omega) (by omega) (by simp) ?_; intro v3 w3 hown hgrow; have s0 := (hgrow.cell_far ⟨b, o, none⟩ (by simp; omega) (fun e => by simp [Value.ownBlock] at e; omega)).trans d0; have s1 := (hgrow.cell_far ⟨b, o + 1, none⟩ (by simp; omega) (fun e => by simp [Value.ownBlock] at e; omega)).trans d1; have s2 := (hgrow.cell_far ⟨b, o + 2, none⟩ (by simp; omega) (fun e => by simp [Value.ownBlock] at e; omega)).trans d2))
  obtain ⟨ao3, c3, rfl⟩ := ownsRow_shape hown
  have O3 : Hid (w3.ownsRow w.heap.size 2 1 (.slice ao3 (3 + n) c3) (3 + n) ((([s, t, (n : Int)] ++ xs) ++ List.replicate 0 0).map (Value.int .i64))) := by
    have := hown
    simpa [Hid] using this
  have B3 := hide (BA.grown hgrow (by simp) (fun r hr => by simp [Value.ownBlock] at hr; omega))
  clear hown hgrow s0 s1 s2 d0 d1 d2 c0 c1 c2 OF BA HSr HSr2 HY
  obtain ⟨A, hA⟩ : ∃ A, [s, t, (n : Int)] ++ xs = A := ⟨_, rfl⟩
  have HAl : Hid (A.length = 3 + n) := by unfold Hid; rw [← hA]; simp [HN.out]; omega
  have HAe : Hid (packH s t xs = A ++ List.replicate (29 - n) 0) := by unfold Hid packH; rw [← hA, HN.out]
  rw [hA] at O3
  clear hA
  go_wp2
  go_loopw [3] (fun v wr => ∃ (j : Nat) (ao : Option Addr) (c : Nat), 3 + n + j ≤ 32 ∧ v = .slice ao (3 + n + j) c ∧ Hid (wr.ownsRow w.heap.size 2 1 (.slice ao (3 + n + j) c) (3 + n + j) ((A ++ List.replicate j 0).map (Value.int .i64))) ∧ Hid (Below w.heap.size w wr)) (fun v _ => 32 - sliceLen v)
  case atStart => exact ⟨0, ao3, c3, by omega, rfl, O3.out, B3.out⟩
  case round =>
    obtain ⟨j, ao, c, hj, rfl, HO2, HB⟩ := hrel
    have hz := HB.out.size
    by_cases hlt : 3 + n + j < 32
    · go_wp2_with (at_builtin; refine wpList_append_lies _ rfl _ _ _ rfl w.heap.size 2 i0 (.int .i64 0) 1 8 Try.underlying26 hi hz0 hz1 hz2 rfl (by omega) _ (3 + n + j) _ (by rfl) (HO2.out.alloc _) ⟨wr.heap.size, 0, none⟩ 1 1 [.int .i64 0] (by rfl) (by rfl) (World.news_of_block (cs := #[.int .i64 0]) (t := 2) (fr := (0, 0)) (heap_alloc_new wr _)) (by simp [Value.oneCell']) (by omega) (by unfold maxLen; omega) (by omega) (by simp; omega) (wr.heap.size + 1) (by simp) ?_)
      intro g cap w5 hown hgrow hat hlt3
      have HO3 : Hid (w5.ownsRow w.heap.size 2 1 (.slice (some ⟨g, 0, none⟩) (3 + n + (j + 1)) cap) (3 + n + (j + 1)) ((A ++ List.replicate (j + 1) 0).map (Value.int .i64))) := by rw [Hid, snoc_zero]; exact hown
      have HG3 := hide ((HB.out.trans ((below_alloc wr (.cells #[.int .i64 0] 2)).mono (by omega))).grown hgrow (by simp; omega) (fun r hr => (HO2.out.lt r hr).1))
      clear hown hgrow hat hlt3
      go_wp2
      go_roundw
      case rel => exact ⟨j + 1, _, _, by omega, rfl, HO3.out, HG3.out⟩
      case measure => simp [sliceLen]; omega
    · have hj2 : j = 29 - n := by omega
      have HP : Hid (A ++ List.replicate j 0 = packH s t xs) := by unfold Hid; rw [HAe.out, hj2]
      have HPl : Hid ((packH s t xs).length = 3 + n + j) := by unfold Hid; rw [packH_len (by rw [HN.out]; exact hl)]; omega
      have HO4 : Hid (OwI w.heap.size wr (.slice ao (3 + n + j) c) (packH s t xs)) := ow_of_owns HPl.out (by rw [← HP.out]; exact HO2.out) (by rw [HPl.out]; omega)
      have hj32 : 3 + n + j = 32 := by omega
      have HJ := hide hj32
      clear hj2 hj32
      go_wp2_with fail
      refine (l1IntsOwn HO4.out.rd (by rw [HPl.out]; omega)).mono ?_
      rintro e w6 ⟨u6, rfl, hb6, ho6⟩
      rw [HPl.out] at ho6
      obtain ⟨ao6, c6, rfl⟩ := ownsRow_shape ho6
      have RB2 := HO4.out.rd.later hb6
      obtain ⟨aob', cb', esb, hsrc⟩ := RB2.src
      rw [HPl.out] at esb hsrc
      injection esb with e1 e2 e3
      subst e1
      have HSr := hide hsrc
      have HB6 := hide (HB.out.trans (hb6.mono (by omega)))
      have HO6 := hide ho6
      have hz6 := hb6.size
      clear hsrc RB2 e2 e3 hb6 ho6
      go_wp2_with (at_builtin; refine wpList_append_any _ rfl _ _ 26 rfl wr.heap.size 2 i0 (.int .i64 0) 1 8 Try.underlying26 hi hz0 hz1 hz2 rfl (by decide) _ (3 + n + j) _ (by rfl) HO6.out ao (3 + n + j) c ((packH s t xs).map (Value.int .i64)) (by rfl) (by simp [HPl.out]) HSr.out (ints_oneCell _ _) (by unfold maxLen; omega) (by omega) hz6 ?_)
      intro v' w7 hown hgrow
      have HO7 := hide hown
      have HG7 := hide (HB6.out.grown hgrow (by omega) (fun r hr => by have := (HO6.out.lt r hr).1; omega))
      clear hown hgrow
      go_wp2
      go_ret
      exact ⟨v', rfl, HG7.out, (ow_of_owns (xs := packL s t xs) (n := 3 + n + j + (3 + n + j)) (by unfold packL; simp [HPl.out]) (by unfold packL; rw [List.map_append]; exact HO7.out) (by unfold packL; simp [HPl.out]; omega)).mono (by omega)⟩

end Go.Proofs.Ytkdbkkhmaiomkaa
