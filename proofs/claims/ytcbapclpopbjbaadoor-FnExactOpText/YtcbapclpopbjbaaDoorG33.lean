/- Ws3 in one text: what each says stands at its head below. -/
import Derived.Test.YtcbapclpopbjbaaDoorG32
import Derived.Test.YtcbapclpopbjbaaDoorG10
import Derived.Lib.SplitLaws
import Derived.Lib.IndexBytes
/- A text cut at a byte, and its words: the mathematics, and the walks of the model's functions. -/
namespace Go.Proofs.YtcbapclpopbjbaaDoor
open Go.RowKit

theorem Tryd.infoStr : (Tryd.prog.info? 9).map (fun i => (i.zero, i.size, i.bytes)) = some (some (.string ByteArray.empty), 1, 16) := by kernel_rfl
def cutW (c : UInt8) : List UInt8 → List UInt8 → List (List UInt8)
  | [], acc => [acc]
  | b :: r, acc => if b = c then acc :: cutW c r [] else cutW c r (acc ++ [b])
def cutB (c : UInt8) (s : ByteArray) : List ByteArray := (cutW c s.data.toList []).map fun l => ⟨l.toArray⟩
theorem map_back (O : List ByteArray) : (O.map (·.data.toList)).map (fun l => (⟨l.toArray⟩ : ByteArray)) = O := by
  rw [List.map_map]
  conv => rhs; rw [← List.map_id O]
  exact List.map_congr_left fun x _ => Lib.mk_data x
theorem cutW_len (c : UInt8) : ∀ (l acc : List UInt8), (cutW c l acc).length ≤ l.length + 1
  | [], acc => by simp [cutW]
  | b :: r, acc => by
    unfold cutW
    split
    · have := cutW_len c r []; simp; omega
    · have := cutW_len c r (acc ++ [b]); simp; omega
theorem cutB_len (c : UInt8) (s : ByteArray) : (cutB c s).length ≤ s.size + 1 := by
  have := cutW_len c s.data.toList []
  rw [cutB, List.length_map, Lib.size_eq]; exact this
def glue (acc : List UInt8) : List (List UInt8) → List (List UInt8)
  | p :: q => (acc ++ p) :: q
  | [] => [acc]
theorem cutW_split (c : UInt8) : ∀ (l acc : List UInt8), cutW c l acc = glue acc (Lib.splitK [c] 0 (l.count c) l)
  | [], acc => by simp [cutW, Lib.splitK, glue]
  | b :: r, acc => by
    by_cases e : b = c
    · subst e
      have ih := cutW_split b r []
      have h0 : Lib.index (b :: r) [b] = 0 := by rw [Lib.index_one]; simp [Lib.indexByte]
      have hg : glue [] (Lib.splitK [b] 0 (r.count b) r) = Lib.splitK [b] 0 (r.count b) r := by
        cases hh : r.count b with
        | zero => simp [Lib.splitK, glue]
        | succ k =>
          unfold Lib.splitK
          split <;> simp [glue]
      rw [hg] at ih
      rw [cutW, if_pos rfl, ih, List.count_cons_self]
      show _ = glue acc (if _ then _ else _)
      rw [h0, if_neg (by decide)]
      simp [glue]
    · have ih := cutW_split c r (acc ++ [b])
      rw [cutW, if_neg e, ih, List.count_cons_of_ne (fun q => e q)]
      cases hh : r.count c with
      | zero => simp [Lib.splitK, glue]
      | succ k =>
        have hn : Lib.indexByte r c ≠ -1 := fun q => by
          have h1 := Lib.indexByte_none q
          have h2 : c ∈ r := List.count_pos_iff.1 (by omega)
          obtain ⟨i, hi, he⟩ := List.mem_iff_getElem.1 h2
          exact h1 i (by rw [List.getElem?_eq_getElem hi, he])
        have hge := Lib.indexByte_ge r c
        obtain ⟨i, hi⟩ : ∃ i : Nat, Lib.indexByte r c = i := ⟨(Lib.indexByte r c).toNat, by omega⟩
        have e1 : Lib.index r [c] = i := by rw [Lib.index_one]; exact hi
        have e2 : Lib.index (b :: r) [c] = ((i + 1 : Nat) : Int) := by
          rw [Lib.index_one, Lib.indexByte, if_neg (by simpa using e), if_neg (by simpa using hn), hi]; omega
        show glue _ (if _ then _ else _) = glue _ (if _ then _ else _)
        rw [e1, e2, if_neg (by simp <;> omega), if_neg (by simp <;> omega)]
        simp [glue]
theorem splitB_cut (c : UInt8) (s : ByteArray) : Lib.splitB ⟨#[c]⟩ 0 (Lib.countB s ⟨#[c]⟩) s = cutB c s := by
  have h := Lib.splitB_data ⟨#[c]⟩ 0 (Lib.countB s ⟨#[c]⟩) s
  have hc : Lib.countB s ⟨#[c]⟩ = s.data.toList.count c := by
    show Lib.count s.data.toList [c] = _
    rw [Lib.count_one]
  have hg := cutW_split c s.data.toList []
  have hne : ∀ k l, Lib.splitK [c] 0 k l ≠ [] := fun k l => by
    cases k with
    | zero => simp [Lib.splitK]
    | succ k => unfold Lib.splitK; split <;> simp
  have hg2 : ∀ X : List (List UInt8), X ≠ [] → glue [] X = X := fun X hX => by
    cases X with
    | nil => exact absurd rfl hX
    | cons a b => simp [glue]
  rw [hg2 _ (hne _ _)] at hg
  rw [← map_back (Lib.splitB ⟨#[c]⟩ 0 (Lib.countB s ⟨#[c]⟩) s), h, cutB, hg, hc]

/-- What the loop knows at place k with a piece begun at f. -/
structure CutI (c : UInt8) (s : ByteArray) (k f : Nat) (O : List ByteArray) : Prop where
  hf : f ≤ k
  hk : k ≤ s.size + 1
  hl : O.length ≤ k
  mid : k ≤ s.size → O.map (·.data.toList) ++ cutW c (s.data.toList.drop k) ((s.data.toList.drop f).take (k - f)) = cutW c s.data.toList []
  fin : k = s.size + 1 → O = cutB c s
theorem CutI.zero (c : UInt8) (s : ByteArray) : CutI c s 0 0 [] := ⟨Nat.le_refl _, Nat.zero_le _, Nat.le_refl _, fun _ => by simp, fun h => by omega⟩
theorem CutI.last {c : UInt8} {s : ByteArray} {f : Nat} {O : List ByteArray} (h : CutI c s s.size f O) : CutI c s (s.size + 1) (s.size + 1) (O ++ [s.extract f s.size]) := by
  refine ⟨Nat.le_refl _, Nat.le_refl _, by have := h.hl; simp; omega, fun q => by omega, fun _ => ?_⟩
  have hm := h.mid (Nat.le_refl _)
  rw [List.drop_of_length_le (by rw [← Lib.size_eq]; exact Nat.le_refl _)] at hm
  rw [← map_back (O ++ [s.extract f s.size]), cutB, ← hm, List.map_append, List.map_cons, List.map_nil, Lib.extract_data]
  rfl
theorem drop_at (s : ByteArray) (k : Nat) (h : k < s.size) : s.data.toList.drop k = s[k] :: s.data.toList.drop (k + 1) := by
  have hl : k < s.data.toList.length := by rw [← Lib.size_eq]; exact h
  rw [List.drop_eq_getElem_cons hl]
  rfl
theorem CutI.hit {c : UInt8} {s : ByteArray} {k f : Nat} {O : List ByteArray} (h : CutI c s k f O) (hk : k < s.size) (hc : s[k] = c) : CutI c s (k + 1) (k + 1) (O ++ [s.extract f k]) := by
  refine ⟨Nat.le_refl _, by omega, by have := h.hl; simp; omega, fun _ => ?_, fun q => by omega⟩
  have hm := h.mid (by omega)
  rw [drop_at s k hk, cutW, if_pos hc] at hm
  rw [← hm, List.map_append, List.map_cons, List.map_nil, Lib.extract_data, Nat.sub_self, List.take_zero, List.append_assoc]
  rfl
theorem CutI.miss {c : UInt8} {s : ByteArray} {k f : Nat} {O : List ByteArray} (h : CutI c s k f O) (hk : k < s.size) (hc : s[k] ≠ c) : CutI c s (k + 1) f O := by
  refine ⟨by have := h.hf; omega, by omega, by have := h.hl; omega, fun _ => ?_, fun q => by omega⟩
  have hm := h.mid (by omega)
  rw [drop_at s k hk, cutW, if_neg hc] at hm
  rw [← hm]
  congr 2
  have e : k + 1 - f = k - f + 1 := by have := h.hf; omega
  have hl : k - f < (s.data.toList.drop f).length := by rw [List.length_drop, ← Lib.size_eq]; have := h.hf; omega
  rw [e, List.take_succ_eq_append_getElem hl, List.getElem_drop]
  congr 2
  have := h.hf
  simp only [show f + (k - f) = k by omega]
  rfl

/-- The words among the first k pieces. -/
def wsK (ps : List ByteArray) : Nat → List ByteArray
  | 0 => []
  | k + 1 => if ps.getD k emS = emS then wsK ps k else wsK ps k ++ [ps.getD k emS]
theorem wsK_len (ps : List ByteArray) : ∀ k, (wsK ps k).length ≤ k
  | 0 => Nat.le_refl _
  | k + 1 => by
    have := wsK_len ps k
    unfold wsK
    split
    · omega
    · simp; omega
def wordsB (s : ByteArray) : List ByteArray := wsK (cutB 32 s) (cutB 32 s).length

set_option maxRecDepth 4000 in
set_option maxHeartbeats 1000000 in
/-- 'spec.l16Cut'. -/
theorem specCut (s : ByteArray) (c : UInt8) (w : World) (hs : s.size ≤ 1048576) :
    Calls Tryd.prog 45 #[.string s, .int .u8 (c.toNat : Int)] w fun e w' => ∃ z, e = .returned z ∧ Below w.heap.size w w' ∧ w'.ownsRow w.heap.size 9 1 z (cutB c s).length ((cutB c s).map Value.string) := by
  obtain ⟨i0, hi, hz0, hz1, hz2⟩ := info_parts Tryd.infoStr
  go_enter Tryd.func45, Tryd.ntmps45
  go_wp2
  go_loopw [5, 6, 7] (fun v u i wr => ∃ (k f : Nat) (O : List ByteArray), k ≤ s.size + 1 ∧ f ≤ k ∧ O.length ≤ k ∧ i = .int .i64 k ∧ u = .int .i64 f ∧ Hid (CutI c s k f O) ∧ Hid (wr.ownsRow w.heap.size 9 1 v O.length (O.map Value.string)) ∧ Hid (Below w.heap.size w wr)) (fun _ _ i _ => s.size + 1 - (intOf i).toNat)
  case atStart => exact ⟨0, 0, [], Nat.zero_le _, Nat.le_refl _, Nat.le_refl _, rfl, rfl, CutI.zero c s, World.ownsRow_made w #[] 0 (Nat.le_refl _) (by unfold maxLen; omega) (by simp), below_alloc _ _⟩
  case round =>
    obtain ⟨k, f, O, hk, hf, hl, rfl, rfl, HC, HO, HB⟩ := hrel
    have hBs := HB.out.size
    by_cases hend : k = s.size + 1
    · have HE := hide (HC.out.fin hend)
      go_wp2
      go_ret
      exact ⟨_, rfl, HB.out, by rw [← HE.out]; exact HO.out⟩
    · obtain ⟨l, hlen⟩ : ∃ l, O.length = l := ⟨_, rfl⟩
      rw [hlen] at hl HO
      by_cases hlast : k = s.size
      · subst hlast
        have HN := hide HC.out.last
        go_wp2_with (at_builtin; (refine wpList_append_lies _ rfl _ _ _ rfl w.heap.size 9 i0 (.string ByteArray.empty) 1 16 Tryd.underlying22 hi hz0 hz1 hz2 rfl (by omega) _ l _ (by rfl) (ownsRow_later HO.out (below_alloc wr (.cells #[.string (s.extract f s.size)] 9))) ⟨wr.heap.size, 0, none⟩ 1 1 [.string (s.extract f s.size)] (by rfl) (by rfl) (World.news_of_block (cs := #[.string (s.extract f s.size)]) (t := 9) (fr := (0, 0)) (heap_alloc_new wr _)) (by simp [Value.oneCell']) (by omega) (by unfold maxLen; omega) (by omega) (by simp; omega) (wr.heap.size + 1) (by simp) ?_))
        intro g cap w3 hown3 hgrow hat hlt3
        have HS : Hid (w3.ownsRow w.heap.size 9 1 (.slice (some ⟨g, 0, none⟩) (l + 1) cap) (O ++ [s.extract f s.size]).length ((O ++ [s.extract f s.size]).map Value.string)) := by rw [List.length_append, hlen, List.map_append]; exact hown3
        have HB3 := hide ((below_on HB.out (below_alloc wr (.cells #[.string (s.extract f s.size)] 9))).grown hgrow (by simp; omega) (fun r hr => (HO.out.lt r hr).1))
        clear hown3 hgrow hat
        go_wp2
        go_roundw
        case rel => exact ⟨s.size + 1, s.size + 1, _, by omega, Nat.le_refl _, by rw [List.length_append, hlen]; simp; omega, by go_num, by go_num, unhide HN, unhide HS, unhide HB3⟩
        case measure => simp [intOf]
      · have hlt : k < s.size := by omega
        have hix : ∀ W : World, (Instr.index 9 (.string s) (.int .i64 (k : Int))).run Tryd.prog W = .ok (.int .u8 ((s[k]).toNat : Int)) W := fun W => by
          rw [run_index_string W 9 s .i64 k Tryd.underlying9, dif_pos ⟨by omega, by omega⟩]
          rfl
        by_cases hcc : s[k] = c
        · have HN := hide (HC.out.hit hlt hcc)
          rw [hcc] at hix
          go_wp2_with (at_builtin; (refine wpList_append_lies _ rfl _ _ _ rfl w.heap.size 9 i0 (.string ByteArray.empty) 1 16 Tryd.underlying22 hi hz0 hz1 hz2 rfl (by omega) _ l _ (by rfl) (ownsRow_later HO.out (below_alloc wr (.cells #[.string (s.extract f k)] 9))) ⟨wr.heap.size, 0, none⟩ 1 1 [.string (s.extract f k)] (by rfl) (by rfl) (World.news_of_block (cs := #[.string (s.extract f k)]) (t := 9) (fr := (0, 0)) (heap_alloc_new wr _)) (by simp [Value.oneCell']) (by omega) (by unfold maxLen; omega) (by omega) (by simp; omega) (wr.heap.size + 1) (by simp) ?_))
          intro g cap w3 hown3 hgrow hat hlt3
          have HS : Hid (w3.ownsRow w.heap.size 9 1 (.slice (some ⟨g, 0, none⟩) (l + 1) cap) (O ++ [s.extract f k]).length ((O ++ [s.extract f k]).map Value.string)) := by rw [List.length_append, hlen, List.map_append]; exact hown3
          have HB3 := hide ((below_on HB.out (below_alloc wr (.cells #[.string (s.extract f k)] 9))).grown hgrow (by simp; omega) (fun r hr => (HO.out.lt r hr).1))
          clear hown3 hgrow hat
          go_wp2
          go_roundw
          case rel => exact ⟨k + 1, k + 1, _, by omega, Nat.le_refl _, by rw [List.length_append, hlen]; simp; omega, by go_num, by go_num, unhide HN, unhide HS, unhide HB3⟩
          case measure => simp [intOf]; omega
        · have HN := hide (HC.out.miss hlt hcc)
          obtain ⟨x, hx⟩ : ∃ x : Nat, (s[k]).toNat = x := ⟨_, rfl⟩
          have hne : ¬ (x : Int) = (c.toNat : Int) := fun e => hcc (UInt8.toNat_inj.1 (by omega))
          rw [hx] at hix
          obtain ⟨y, hy⟩ : ∃ y : Nat, c.toNat = y := ⟨_, rfl⟩
          rw [hy] at hne ⊢
          have hb1 : ((k : Int) == (s.size : Int)) = false := by simp; omega
          have hb2 : ((x : Int) == (y : Int)) = false := by simpa using hne
          rw [← hlen] at HO
          go_wp2
          go_roundw
          case rel => exact ⟨k + 1, f, O, by omega, by omega, by omega, by go_num, rfl, unhide HN, unhide HO, unhide HB⟩
          case measure => simp [intOf]; omega
end Go.Proofs.YtcbapclpopbjbaaDoor
