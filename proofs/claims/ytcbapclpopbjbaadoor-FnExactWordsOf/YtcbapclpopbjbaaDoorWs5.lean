/- The words of a line: the program. -/
import Derived.Test.YtcbapclpopbjbaaDoorWs4
import Derived.Test.YtcbapclpopbjbaaDoorShelf4
namespace Go.Proofs.YtcbapclpopbjbaaDoor
open Go.RowKit

/-- 'internal/bytealg.MaxLen' holds some number (what the world's shape gives). -/
def MaxL (w : World) : Prop := ∃ m, w.cell? ⟨0, 0, none⟩ = some (.int .i64 m)
theorem MaxL.later {w w' : World} (h : MaxL w) (hb : Below w.heap.size w w') : MaxL w' := h.imp fun _ q => cell_later hb q
theorem MaxL.wr {S : Nat → Prop} {w w' : World} (h : MaxL w) (hw : Wr S w w') (hd : ¬ S 0) : MaxL w' := h.imp fun _ q => cell_wr hw q hd
theorem maxL_of_shape {w : World} (h : w.ShapedOpen Tryd.prog) : MaxL w := Tryd.splitL.s1_3 w h

/-- 'strings.Split' at a text of one byte. -/
theorem splitC (s : ByteArray) (c : UInt8) (w : World) (hm : MaxL w) (hs : s.size ≤ 1048576) :
    Calls Tryd.prog 23 #[.string s, .string ⟨#[c]⟩] w fun e w' => e = .returned (.slice (some ⟨w.heap.size, 0, none⟩) (cutB c s).length (cutB c s).length) ∧ w' = w.alloc (.cells ((cutB c s).map Value.string).toArray 9) := by
  obtain ⟨m, hm⟩ := hm
  have h := Any.strings_Split { Tryd.splitL with } Tryd.splitL.i9 s ⟨#[c]⟩ m w (by omega) hm (Nat.le_refl 1)
  have hl : Lib.countB s ⟨#[c]⟩ + 1 = (cutB c s).length := by rw [← splitB_cut]; exact (Lib.splitB_all ⟨#[c]⟩ (Nat.le_refl 1) 0 _ s rfl).symm
  rw [splitB_cut, hl] at h
  exact h

/-- 'strings.Clone'. -/
theorem cloneC (s : ByteArray) (w : World) (hs : s.size ≤ 281474976710656) :
    Calls Tryd.prog 24 #[.string s] w fun e w' => e = .returned (.string s) ∧ Below w.heap.size w w' := by
  go_enter Tryd.func24, Tryd.ntmps24
  go_wp2_with fail
  refine (show Calls Tryd.prog 47 #[.string s] w fun e w' => e = .returned (.string s) ∧ Below w.heap.size w w' from Any.stringslite_Clone Tryd.cloneL s w hs).mono ?_
  rintro e w1 ⟨rfl, hb⟩
  have HB := hide hb
  clear hb
  go_wp2
  go_ret
  exact ⟨rfl, HB.out⟩

theorem cutB_size (c : UInt8) (s : ByteArray) : ∀ x ∈ cutB c s, x.size ≤ s.size := by
  have hw : ∀ (l acc : List UInt8), ∀ p ∈ cutW c l acc, p.length ≤ acc.length + l.length := by
    intro l
    induction l with
    | nil => intro acc p hp; simp [cutW] at hp; subst hp; simp
    | cons b r ih =>
      intro acc p hp
      unfold cutW at hp
      split at hp
      · rcases List.mem_cons.1 hp with rfl | hp
        · simp
        · have := ih [] p hp; simp at this ⊢; omega
      · have := ih _ p hp; simp at this ⊢; omega
  intro x hx
  obtain ⟨p, hp, rfl⟩ := List.mem_map.1 hx
  have := hw _ _ p hp
  have e : (⟨p.toArray⟩ : ByteArray).size = p.length := by show p.toArray.size = _; simp
  rw [Lib.size_eq s, e]
  rw [List.length_nil, Nat.zero_add] at this
  exact this

set_option maxRecDepth 4000 in
set_option maxHeartbeats 1000000 in
/-- 'impl.WordsOf'. -/
theorem implWordsOf (s : ByteArray) (w : World) (hm : MaxL w) (hs : s.size ≤ 1048576) :
    Calls Tryd.prog 7 #[.string s] w fun e w' => ∃ z, e = .returned (.agg #[.int .i64 0, z]) ∧ Below w.heap.size w w' ∧ IvS w.heap.size w'.heap.size w' z (wordsB s) := by
  obtain ⟨i0, hi, hz0, hz1, hz2⟩ := info_parts Tryd.infoStr
  have hcl := cutB_len 32 s
  have HSz := hide (cutB_size 32 s)
  obtain ⟨ps, hps⟩ : ∃ ps, cutB 32 s = ps := ⟨_, rfl⟩
  obtain ⟨n, hn⟩ : ∃ n, ps.length = n := ⟨_, rfl⟩
  have HR := hide (show wordsB s = wsK ps n by rw [wordsB, hps, hn])
  have HSp := hide (splitC s 32 (w.alloc (.cells #[.int .i64 0, .slice none 0 0] 24)) (hm.later (below_alloc _ _)) hs)
  rw [hps, hn] at hcl HSp
  rw [hps] at HSz
  clear hps hm
  go_enter Tryd.func7, Tryd.ntmps7
  go_wp2_with fail
  refine HSp.out.mono ?_
  rintro e w1 ⟨rfl, hw1⟩
  have hz1' : w.heap.size + 2 ≤ w1.heap.size := by rw [hw1]; simp
  have HB1 : Hid (Below w.heap.size w w1) := by rw [hw1]; exact below_on (below_alloc _ _) (below_alloc _ _)
  have k0 : w1.cell? ⟨w.heap.size, 0, none⟩ = some (.int .i64 0) := by rw [hw1]; exact cell_later (below_alloc _ _) (by simp [go_sem])
  have k1 : w1.cell? ⟨w.heap.size, 1, none⟩ = some (.slice none 0 0) := by rw [hw1]; exact cell_later (below_alloc _ _) (by simp [go_sem])
  have k2 : ∀ o, w1.frozen? ⟨w.heap.size, o, none⟩ = false := fun o => by rw [hw1]; exact ((bcell (below_alloc _ _)).2 _ _ (by simp)).trans (by simp [go_sem])
  have HP : Hid (∀ k, k < n → w1.cell? ⟨w.heap.size + 1, k, none⟩ = some (.string (ps.getD k emS))) := fun k hk => by
    rw [hw1]
    have e : w.heap.size + 1 = (w.alloc (.cells #[.int .i64 0, .slice none 0 0] 24)).heap.size := by simp
    rw [e, World.cell?_alloc_mark]
    simp [List.getD, hn, hk]
  have e1 : (w.alloc (.cells #[.int .i64 0, .slice none 0 0] 24)).heap.size = w.heap.size + 1 := by simp
  rw [e1]
  clear hw1 HSp
  go_wp2
  go_loopw [3, 5, 9] (fun v _ i wr => ∃ k : Nat, k ≤ n ∧ i = .int .i64 k ∧ Hid (wr.ownsRow w1.heap.size 9 1 v (wsK ps k).length ((wsK ps k).map Value.string)) ∧ Hid (Below w1.heap.size w1 wr)) (fun _ _ i _ => n - (intOf i).toNat)
  case atStart => exact ⟨0, Nat.zero_le _, rfl, World.ownsRow_nil _ _ _ _, Below.refl _ _⟩
  case round =>
    obtain ⟨k, hk, rfl, HO, HB⟩ := hrel
    have hBs := HB.out.size
    by_cases hlt : k < n
    · have g1 := cell_later HB.out (HP.out k hlt)
      have hxs : (ps.getD k emS).size ≤ s.size := HSz.out _ (by
        have e : ps.getD k emS = ps[k]'(by omega) := by simp [List.getD, hn, hlt]
        rw [e]; exact List.getElem_mem _)
      obtain ⟨x, hx⟩ : ∃ x, ps.getD k emS = x := ⟨_, rfl⟩
      have HK : Hid (wsK ps (k + 1) = if x = emS then wsK ps k else wsK ps k ++ [x]) := by rw [← hx]; rfl
      have hlw := wsK_len ps k
      rw [hx] at g1 hxs
      clear hx k0 k1 k2
      by_cases he : x = emS
      · rw [if_pos he] at HK
        rw [← HK.out] at HO
        have he' : x = { data := #[] } := he
        have hem : x.toList.isEmpty = true := by rw [he', Lib.toList_data]; rfl
        go_wp2
        go_roundw
        case rel => exact ⟨k + 1, hlt, by go_num, unhide HO, unhide HB⟩
        case measure => simp [intOf]; omega
      · rw [if_neg he] at HK
        have hem : x.toList.isEmpty = false := notEm he
        obtain ⟨l, hl⟩ : ∃ l, (wsK ps k).length = l := ⟨_, rfl⟩
        rw [hl] at HO hlw
        go_wp2_with fail
        refine (cloneC x _ (by omega)).mono ?_
        rintro e wc ⟨rfl, hbc⟩
        have hcs := hbc.size
        have HBc := hide hbc
        clear hbc g1
        go_wp2_with (at_builtin; refine wpList_append_lies _ rfl _ _ _ rfl w1.heap.size 9 i0 (.string ByteArray.empty) 1 16 Tryd.underlying22 hi hz0 hz1 hz2 rfl (by omega) _ l _ (by rfl) (ownsRow_later (ownsRow_later HO.out HBc.out) (below_alloc wc (.cells #[.string x] 9))) ⟨wc.heap.size, 0, none⟩ 1 1 [.string x] (by rfl) (by rfl) (World.news_of_block (cs := #[.string x]) (t := 9) (fr := (0, 0)) (heap_alloc_new wc _)) (by simp [Value.oneCell']) (by omega) (by unfold maxLen; omega) (by omega) (by simp; omega) (wc.heap.size + 1) (by simp) ?_)
        intro g cap w3 hown3 hgrow hat hlt3
        have HS : Hid (w3.ownsRow w1.heap.size 9 1 (.slice (some ⟨g, 0, none⟩) (l + 1) cap) (wsK ps (k + 1)).length ((wsK ps (k + 1)).map Value.string)) := by rw [HK.out, List.length_append, hl, List.map_append]; exact hown3
        have HB3 := hide ((below_on (below_on HB.out HBc.out) (below_alloc wc (.cells #[.string x] 9))).grown hgrow (by simp; omega) (fun r hr => (HO.out.lt r hr).1))
        clear hown3 hgrow hat
        go_wp2
        go_roundw
        case rel => exact ⟨k + 1, hlt, by go_num, unhide HS, unhide HB3⟩
        case measure => simp [intOf]; omega
    · have hkn : k = n := by omega
      subst hkn
      obtain ⟨ao, c, rfl⟩ := owns_shapeS HO.out
      have HV := hide (ivS_of_owns rfl HO.out (by have := wsK_len ps k; omega))
      rw [← HR.out] at HV ⊢
      obtain ⟨l, hln⟩ : ∃ l, (wordsB s).length = l := ⟨_, rfl⟩
      rw [hln] at HV ⊢
      have j0 := cell_later HB.out k0
      have j1 := cell_later HB.out k1
      have j2 : ∀ o, wr.frozen? ⟨w.heap.size, o, none⟩ = false := fun o => ((bcell HB.out).2 _ _ (by omega)).trans (k2 o)
      clear k0 k1 k2 HO
      go_wp2
      have hfin := ret_words (x := .int .i64 0) (below_on HB1.out HB.out) (r := w.heap.size) (Nat.le_refl _) HV.out (by omega)
      refine bodyPost_ret (v := .agg #[.int .i64 0, .slice ao l c]) (by simp [results, Tryd.results7, go_sem, j0, j1]) rfl ⟨_, rfl, hfin.1, hfin.2.mono (Nat.le_refl _) (by simp)⟩
end Go.Proofs.YtcbapclpopbjbaaDoor
