/- Ws4 in one text: what each says stands at its head below. -/
import Derived.Test.YtcbapclpopbjbaaDoorG33
/- The words of a line: the model. -/
namespace Go.Proofs.YtcbapclpopbjbaaDoor
open Go.RowKit

theorem own_stringAt {w : World} {B t n : Nat} {v : Value} {ps : List ByteArray} (h : w.ownsRow B t 1 v n (ps.map Value.string)) (hn : ps.length = n) (k : Nat) (hk : k < n) :
    ∃ g cap, v = .slice (some ⟨g, 0, none⟩) n cap ∧ w.cell? ⟨g, k, none⟩ = some (.string (ps.getD k emS)) := by
  subst hn
  rcases h.2 with ⟨rfl, e⟩ | ⟨g, cap, cur, rfl, hg, hh, hnc, _⟩
  · omega
  · refine ⟨g, cap, rfl, ?_⟩
    rw [h.cellAt k (by simpa using hk)]
    simp [List.getD, hk]

theorem notEm {x : ByteArray} (h : ¬ x = emS) : x.toList.isEmpty = false := by
  rw [Lib.toList_data]
  cases hx : x.data.toList with
  | nil => exact absurd (by rw [← Lib.mk_data x, hx]; rfl) h
  | cons a b => rfl
/-- The end of a function that stores a code and a row of strings into its result's variable. -/
theorem ret_words {w w3 : World} {B hi r : Nat} {z x : Value} {xs : List ByteArray} (hb : Below w.heap.size w w3) (hr : w.heap.size ≤ r) (ho : IvS B hi w3 z xs) (hB : r < B) :
    Below w.heap.size w ((w3.setCell ⟨r, 0, none⟩ x).setCell ⟨r, 1, none⟩ z) ∧ IvS w.heap.size hi ((w3.setCell ⟨r, 0, none⟩ x).setCell ⟨r, 1, none⟩ z) z xs := by
  have hw : Wr (fun y => y = r) w3 ((w3.setCell ⟨r, 0, none⟩ x).setCell ⟨r, 1, none⟩ z) := ((Wr.refl (fun y => y = r) _).setCell (p := ⟨r, 0, none⟩) rfl _).setCell (p := ⟨r, 1, none⟩) rfl _
  exact ⟨(hb.setCell (p := ⟨r, 0, none⟩) hr _).setCell (p := ⟨r, 1, none⟩) hr _, (ho.wr hw (fun b h1 _ e => by omega)).mono (by omega) (Nat.le_refl _)⟩
theorem owns_shapeS {w : World} {B e s : Nat} {v : Value} {n : Nat} {xs : List Value} (h : w.ownsRow B e s v n xs) : ∃ ao c, v = .slice ao n c := by
  rcases h.2 with ⟨rfl, e⟩ | ⟨g, cap, cur, rfl, _⟩
  · exact ⟨none, 0, by rw [e]⟩
  · exact ⟨_, _, rfl⟩

set_option maxRecDepth 4000 in
set_option maxHeartbeats 1000000 in
/-- 'spec.l16Words'. -/
theorem specWords (s : ByteArray) (w : World) (hs : s.size ≤ 1048576) :
    Calls Tryd.prog 22 #[.string s] w fun e w' => ∃ z, e = .returned z ∧ Below w.heap.size w w' ∧ w'.ownsRow w.heap.size 9 1 z (wordsB s).length ((wordsB s).map Value.string) := by
  obtain ⟨i0, hi, hz0, hz1, hz2⟩ := info_parts Tryd.infoStr
  have hcl := cutB_len 32 s
  obtain ⟨ps, hps⟩ : ∃ ps, cutB 32 s = ps := ⟨_, rfl⟩
  obtain ⟨n, hn⟩ : ∃ n, ps.length = n := ⟨_, rfl⟩
  have HR := hide (show wordsB s = wsK ps n by rw [wordsB, hps, hn])
  rw [hps, hn] at hcl
  go_enter Tryd.func22, Tryd.ntmps22
  go_wp2_with fail
  refine (specCut s 32 _ hs).mono ?_
  rintro e w1 ⟨z, rfl, hb, ho⟩
  rw [hps, hn] at ho
  have HZ := hide ho
  obtain ⟨ao, cz, rfl⟩ := owns_shapeS ho
  have hz1' : w.heap.size + 1 ≤ w1.heap.size := by have := hb.size; simpa using this
  have HB1 := hide (below_on (below_alloc w (.cells #[] 9)) hb)
  have HO1 : Hid (w1.ownsRow w.heap.size 9 1 (.slice (some ⟨w.heap.size, 0, none⟩) 0 0) 0 []) := ownsRow_later (World.ownsRow_made w #[] 0 (Nat.le_refl _) (by unfold maxLen; omega) (by simp)) hb
  have hzz : w1.ownsRow (w.heap.size + 1) 9 1 (.slice ao n cz) n (ps.map Value.string) := by simpa using HZ.out
  clear hb ho hps
  go_wp2
  go_loopw [3, 5] (fun v i wr => ∃ k : Nat, k ≤ n ∧ i = .int .i64 k ∧ Hid (wr.ownsRow w.heap.size 9 1 v (wsK ps k).length ((wsK ps k).map Value.string)) ∧ Hid (Below w.heap.size w wr) ∧ Hid (∀ r, v.ownBlock = some r → r = w.heap.size ∨ w1.heap.size ≤ r) ∧ Hid (wr.ownsRow (w.heap.size + 1) 9 1 (.slice ao n cz) n (ps.map Value.string)) ∧ w1.heap.size ≤ wr.heap.size) (fun _ i _ => n - (intOf i).toNat)
  case atStart => exact ⟨0, Nat.zero_le _, rfl, HO1.out, HB1.out, fun r hr => by injection hr with hr; exact Or.inl hr.symm, hzz, Nat.le_refl _⟩
  case round =>
    obtain ⟨k, hk, rfl, HO, HB, HV, HZr, hws⟩ := hrel
    have hBs := HB.out.size
    by_cases hlt : k < n
    · obtain ⟨g0, cap0, ez, g1⟩ := own_stringAt HZr.out hn k hlt
      injection ez with ez1 ez2 ez3
      subst ez1
      subst ez3
      have hg0 := (HZ.out.lt g0 rfl).2
      have hg1 := (HZr.out.lt g0 rfl).1
      obtain ⟨x, hx⟩ : ∃ x, ps.getD k emS = x := ⟨_, rfl⟩
      have HK : Hid (wsK ps (k + 1) = if x = emS then wsK ps k else wsK ps k ++ [x]) := by rw [← hx]; rfl
      have hlw := wsK_len ps k
      rw [hx] at g1
      clear hx
      by_cases he : x = emS
      · rw [if_pos he] at HK
        rw [← HK.out] at HO
        have he' : x = { data := #[] } := he
        have hem : x.toList.isEmpty = true := by rw [he', Lib.toList_data]; rfl
        go_wp2
        go_roundw
        case rel => exact ⟨k + 1, hlt, by go_num, unhide HO, unhide HB, unhide HV, unhide HZr, hws⟩
        case measure => simp [intOf]; omega
      · rw [if_neg he] at HK
        have hem : x.toList.isEmpty = false := notEm he
        obtain ⟨l, hl⟩ : ∃ l, (wsK ps k).length = l := ⟨_, rfl⟩
        rw [hl] at HO hlw
        go_wp2_with (at_builtin; refine wpList_append_lies _ rfl _ _ _ rfl w.heap.size 9 i0 (.string ByteArray.empty) 1 16 Tryd.underlying22 hi hz0 hz1 hz2 rfl (by omega) _ l _ (by rfl) (ownsRow_later HO.out (below_alloc wr (.cells #[.string x] 9))) ⟨wr.heap.size, 0, none⟩ 1 1 [.string x] (by rfl) (by rfl) (World.news_of_block (cs := #[.string x]) (t := 9) (fr := (0, 0)) (heap_alloc_new wr _)) (by simp [Value.oneCell']) (by omega) (by unfold maxLen; omega) (by omega) (by simp; omega) (wr.heap.size + 1) (by simp) ?_)
        intro g cap w3 hown3 hgrow hat hlt3
        have HS : Hid (w3.ownsRow w.heap.size 9 1 (.slice (some ⟨g, 0, none⟩) (l + 1) cap) (wsK ps (k + 1)).length ((wsK ps (k + 1)).map Value.string)) := by rw [HK.out, List.length_append, hl, List.map_append]; exact hown3
        have HB3 := hide ((below_on HB.out (below_alloc wr (.cells #[.string x] 9))).grown hgrow (by simp; omega) (fun r hr => (HO.out.lt r hr).1))
        have HV3 : Hid (∀ r, (Value.slice (some ⟨g, 0, none⟩) (l + 1) cap).ownBlock = some r → r = w.heap.size ∨ w1.heap.size ≤ r) := fun r hr => by
          injection hr with hr
          rcases hat with hat | hat
          · exact HV.out r (by rw [hat]; exact congrArg some hr)
          · right; have hr' : g = r := hr; have h5 : (wr.alloc (.cells #[.string x] 9)).heap.size = wr.heap.size + 1 := by simp
            omega
        have HZ3 := hide ((ownsRow_later HZr.out (below_alloc wr (.cells #[.string x] 9))).kept hgrow (Or.inr fun e => by have := HV.out g0 e.symm; omega))
        have hws3 : w1.heap.size ≤ w3.heap.size := by have := hgrow.size; simp at this; omega
        clear hown3 hgrow hat
        go_wp2
        go_roundw
        case rel => exact ⟨k + 1, hlt, by go_num, unhide HS, unhide HB3, unhide HV3, unhide HZ3, hws3⟩
        case measure => simp [intOf]; omega
    · have hkn : k = n := by omega
      subst hkn
      rw [← HR.out] at HO
      go_wp2
      go_ret
      exact ⟨_, rfl, HB.out, HO.out⟩

/-- 'spec.WordsOf'. -/
theorem specWordsOf (s : ByteArray) (w : World) (hs : s.size ≤ 1048576) :
    Calls Tryd.prog 6 #[.string s] w fun e w' => ∃ z, e = .returned (.agg #[.int .i64 0, z]) ∧ Below w.heap.size w w' ∧ IvS w.heap.size w'.heap.size w' z (wordsB s) := by
  have hl : (wordsB s).length ≤ 1048577 := by have := wsK_len (cutB 32 s) (cutB 32 s).length; have := cutB_len 32 s; rw [wordsB]; omega
  go_enter Tryd.func6, Tryd.ntmps6
  go_wp2_with fail
  refine (specWords s _ hs).mono ?_
  rintro e w1 ⟨z, rfl, hb, ho⟩
  have hz1 : w.heap.size + 1 ≤ w1.heap.size := by have := hb.size; simpa using this
  have HO := hide (ivS_of_owns rfl ho (by omega))
  have HB1 := hide (below_on (below_alloc w (.cells #[.int .i64 0, .slice none 0 0] 24)) hb)
  have k0 : w1.cell? ⟨w.heap.size, 0, none⟩ = some (.int .i64 0) := cell_later hb (by simp [go_sem])
  have k1 : w1.cell? ⟨w.heap.size, 1, none⟩ = some (.slice none 0 0) := cell_later hb (by simp [go_sem])
  have k2 : ∀ o, w1.frozen? ⟨w.heap.size, o, none⟩ = false := fun o => ((bcell hb).2 _ _ (by simp)).trans (by simp [go_sem])
  obtain ⟨ao, c, rfl⟩ := owns_shapeS ho
  obtain ⟨l, hln⟩ : ∃ l, (wordsB s).length = l := ⟨_, rfl⟩
  clear hb ho
  rw [hln] at HO ⊢
  go_wp2
  have hfin := ret_words (x := .int .i64 0) HB1.out (r := w.heap.size) (Nat.le_refl _) HO.out (by simp)
  refine bodyPost_ret (v := .agg #[.int .i64 0, .slice ao l c]) (by simp [results, Tryd.results6, go_sem, k0, k1]) rfl ⟨_, rfl, hfin.1, hfin.2.mono (Nat.le_refl _) (by simp)⟩
end Go.Proofs.YtcbapclpopbjbaaDoor
