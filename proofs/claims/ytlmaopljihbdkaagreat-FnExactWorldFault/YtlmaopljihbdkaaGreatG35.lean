/- Im3 Fi7 Fi8 Fi9 Fi10 Fu1 Fi6 Fu2 Fu2b Df1 in one text: what each says stands at its head below. -/
import Derived.Test.YtlmaopljihbdkaaGreatG33
import Derived.Test.YtlmaopljihbdkaaGreatG34
import Derived.Test.YtlmaopljihbdkaaGreatG16
import Derived.Deep.RegionHeld3
import Derived.Test.YtlmaopljihbdkaaGreatG15
import Derived.Test.YtlmaopljihbdkaaGreatG20
import Derived.Test.YtlmaopljihbdkaaGreatG17
import Derived.Deep.AppendLies
import Derived.Test.YtlmaopljihbdkaaGreatG13
import Derived.Test.YtlmaopljihbdkaaGreatG04
import Derived.Test.YtlmaopljihbdkaaGreatG11
import Derived.BigQuiet
namespace Go.Proofs.YtlmaopljihbdkaaGreat
open Go.RowKit
def stP (r : Rf) : List (Int × List Int) := flP r ++ meP r ++ snP r ++ enP r
structure Laid (L : List (Int × List Int)) : Prop where
  other : L.Pairwise fun a b => a.1 ≠ b.1
  room : ∀ x, x ∈ L → 0 ≤ x.1 ∧ x.1 < 40
  some : ∀ x, x ∈ L → x.2 ≠ []
theorem Laid.mem {L : List (Int × List Int)} (h : Laid L) (x : Int × List Int) : x ∈ viewTo (lkP L) 40 ↔ x ∈ L := by
  have hinj : ∀ i j, i < L.length → j < L.length → i < j → (L.getD i (0, [])).1 ≠ (L.getD j (0, [])).1 := fun i j hi hj hij => by
    have := List.pairwise_iff_getElem.1 h.other i j hi hj hij
    simpa [List.getD, hi, hj] using this
  rw [view_mem]
  unfold lkP
  constructor
  · rintro ⟨h1, h2, h3, h4⟩
    by_cases hex : ∃ i, i < L.length ∧ (L.getD i (0, [])).1 = x.1
    · obtain ⟨i, hi, hix⟩ := hex
      have hl := foldl_last (qs := L) (M := fun _ => []) (a := x.1) (i := i) hi hix (fun j h1 h2 => by have := hinj i j hi h2 h1; omega)
      have e : L.getD i (0, []) = L[i] := by simp [List.getD, hi]
      have : x = L[i] := by
        rw [← e]
        exact Prod.ext hix.symm (h4.trans hl)
      rw [this]
      exact List.getElem_mem hi
    · have := foldl_none (qs := L) (M := fun _ => []) (a := x.1) (fun i hi e => hex ⟨i, hi, e⟩)
      rw [this] at h4
      exact absurd h4 h3
  · intro hx
    have hr := h.room x hx
    have hs := h.some x hx
    obtain ⟨i, hi, rfl⟩ := List.getElem_of_mem hx
    have e : L.getD i (0, []) = L[i] := by simp [List.getD, hi]
    have hl := foldl_last (qs := L) (M := fun _ => []) (a := L[i].1) (i := i) hi (by rw [e]) (fun j h1 h2 => by have := hinj i j hi h2 h1; rw [e] at this; omega)
    rw [e] at hl
    exact ⟨hr.1, hr.2, hs, hl.symm⟩
theorem Laid.perm {L : List (Int × List Int)} (h : Laid L) : (viewTo (lkP L) 40).Perm L := by
  have n1 : (viewTo (lkP L) 40).Nodup := (view_lt (lkP L) 40).imp (fun h e => by rw [e] at h; omega)
  have n2 : L.Nodup := h.other.imp (fun h e => h (by rw [e]))
  exact (List.perm_ext_iff_of_nodup n1 n2).2 h.mem
theorem frB_none : frB [] = allB := by decide
theorem sb_take (r : Rf) (hl : r.sn.length ≤ 40) : ∃ k, k ≤ 5 ∧ sbL r = allB.take k := by
  unfold sbL
  split
  · exact ⟨0, by omega, rfl⟩
  · refine ⟨(nbF r.sn.length).toNat, ?_, by unfold tbL; rw [frB_none]⟩
    have := nb_bound hl
    omega
theorem sb_map (r : Rf) (hl : r.sn.length ≤ 40) : mapF (sbL r) = 0 := by
  obtain ⟨k, hk, e⟩ := sb_take r hl
  rw [e]
  rcases (by omega : k = 0 ∨ k = 1 ∨ k = 2 ∨ k = 3 ∨ k = 4 ∨ k = 5) with rfl | rfl | rfl | rfl | rfl | rfl <;> decide
theorem sf_fil (r : Rf) (hl : r.sn.length ≤ 40) : filF (sfL r) = 0 := by
  rw [filF_iff]
  unfold sfL
  split
  · exact ⟨by simp, by simp, by simp, by simp [blksF]⟩
  · rename_i h0
    obtain ⟨k, hk, e⟩ := sb_take r hl
    have hb := sbL_some hl
    have hn := nb_bound hl
    unfold sbL at e hb
    rw [if_neg h0] at e hb
    have hlen : (((tbL [] (nbF r.sn.length)).length : Nat) : Int) = nbF r.sn.length := by
      unfold tbL nbF
      rw [frB_none, List.length_take, show allB.length = 20 by decide]
      unfold nbF at hn
      omega
    refine ⟨by simp, fun p hp => ?_, by simp, ?_⟩
    · obtain rfl : p = (2, (r.sn.length : Int), tbL [] (nbF r.sn.length)) := by simpa using hp
      refine oneF_iff.2 ⟨⟨by simp, by simp; omega⟩, hlen, ?_⟩
      show (tbL [] (nbF r.sn.length)).all inB = true
      rw [e]
      rcases (by omega : k = 0 ∨ k = 1 ∨ k = 2 ∨ k = 3 ∨ k = 4 ∨ k = 5) with rfl | rfl | rfl | rfl | rfl | rfl <;> decide
    · simp only [blksF, List.append_nil]
      rw [e]
      exact List.Nodup.sublist (List.take_sublist _ _) (by decide)
theorem sb_room {r : Rf} (hl : r.sn.length ≤ 40) {a : Int} (ha : a ∈ sbL r) : 3 ≤ a ∧ a ≤ 22 := by
  obtain ⟨k, hk, e⟩ := sb_take r hl
  rw [e] at ha
  have h2 := List.mem_of_mem_take ha
  have : ∀ a ∈ allB, 3 ≤ a ∧ a ≤ 22 := by decide
  exact this a h2
theorem sb_other {r : Rf} (hl : r.sn.length ≤ 40) : (sbL r).Pairwise fun a b => a ≠ b := by
  obtain ⟨k, hk, e⟩ := sb_take r hl
  rw [e]
  exact List.Pairwise.sublist (List.take_sublist _ _) (by decide)
theorem sn_map (r : Rf) : (snP r).map Prod.fst = sbL r := by
  unfold snP
  rw [List.map_map]
  refine List.ext_getElem (by simp) fun i h1 h2 => ?_
  simp only [List.getElem_map, List.getElem_range, Function.comp]
  simp [List.getD, h2]
theorem sn_some {r : Rf} (hl : r.sn.length ≤ 40) {x : Int × List Int} (hx : x ∈ snP r) : (3 ≤ x.1 ∧ x.1 ≤ 22) ∧ x.2 ≠ [] := by
  refine ⟨sb_room hl (by rw [← sn_map r]; exact List.mem_map_of_mem hx), ?_⟩
  unfold snP at hx
  obtain ⟨k, hk, rfl⟩ := List.mem_map.1 hx
  have hk := List.mem_range.1 hk
  have hb := (sbL_some hl).2.1
  intro h0
  have := congrArg List.length h0
  simp only [List.length_take, List.length_drop, List.length_nil] at this
  omega
theorem en_at {fs : List Oj} (h : logF fs = 0) : ∀ (d i : Nat), i + d < fs.length → (fs.getD (i + d) oj0).1 = (fs.getD i oj0).1 + (d : Int) := by
  obtain ⟨_, _, h3⟩ := logF_iff.1 h
  intro d
  induction d with
  | zero => intro i _; simp
  | succ d ih =>
    intro i hi
    have h1 := ih i (by omega)
    have h2 := (h3 (i + d) (by omega)).1
    rw [show i + (d + 1) = i + d + 1 by omega, h2, h1]
    omega
theorem en_some {r : Rf} (h : logF r.lg = 0) {x : Int × List Int} (hx : x ∈ enP r) : (24 ≤ x.1 ∧ x.1 ≤ 37) ∧ x.2 ≠ [] := by
  unfold enP at hx
  obtain ⟨p, hp, rfl⟩ := List.mem_map.1 hx
  obtain ⟨i, hi, rfl⟩ := List.getElem_of_mem hp
  have he := (logF_iff.1 h).2.1 i hi
  rw [show r.lg.getD i oj0 = r.lg[i] by simp [List.getD, hi]] at he
  have hz := (entF_zero he).1.1
  unfold sfV peR
  rw [if_pos hz, if_pos he]
  refine ⟨⟨by omega, by omega⟩, by simp [pkE]⟩
theorem en_other {r : Rf} (h : logF r.lg = 0) : (enP r).Pairwise fun a b => a.1 ≠ b.1 := by
  unfold enP
  rw [List.pairwise_map, List.pairwise_iff_getElem]
  intro i j hi hj hij
  have h14 := (logF_iff.1 h).1
  have h1 := en_at h (j - i) i (by omega)
  rw [show i + (j - i) = j by omega] at h1
  have hei := (logF_iff.1 h).2.1 i hi
  have hej := (logF_iff.1 h).2.1 j hj
  rw [show r.lg.getD i oj0 = r.lg[i] by simp [List.getD, hi]] at hei h1
  rw [show r.lg.getD j oj0 = r.lg[j] by simp [List.getD, hj]] at hej h1
  have hzi := (entF_zero hei).1.1
  have hzj := (entF_zero hej).1.1
  unfold sfV
  rw [if_pos hzi, if_pos hzj, h1]
  omega
theorem fl_some {r : Rf} (hl : r.sn.length ≤ 40) {x : Int × List Int} (hx : x ∈ flP r) : (0 ≤ x.1 ∧ x.1 ≤ 1) ∧ x.2 ≠ [] := by
  unfold flP at hx
  split at hx
  · simp at hx
  · have h1 : pmR (sbL r) ≠ [] := by unfold pmR; rw [if_pos (sb_map r hl)]; simp [pkL]
    have h2 : pdR (sfL r) ≠ [] := by unfold pdR; rw [if_pos (sf_fil r hl)]; simp [pkF]
    simp only [List.mem_cons, List.not_mem_nil, or_false] at hx
    rcases hx with rfl | rfl
    · exact ⟨⟨by simp, by simp⟩, h1⟩
    · exact ⟨⟨by simp, by simp⟩, h2⟩
theorem fl_other (r : Rf) : (flP r).Pairwise fun a b => a.1 ≠ b.1 := by
  unfold flP
  split <;> simp
theorem st_laid {r : Rf} (h : rfF r = 0) : Laid (stP r) := by
  have hr := rfF_iff.1 h
  have hl := daF_len hr.da
  have me : ∀ x, x ∈ meP r → x.1 = 2 ∧ x.2 ≠ [] := fun x hx => by
    obtain rfl : x = _ := by simpa [meP] using hx
    exact ⟨rfl, by simp⟩
  refine ⟨?_, fun x hx => ?_, fun x hx => ?_⟩
  · unfold stP
    rw [List.pairwise_append, List.pairwise_append, List.pairwise_append]
    refine ⟨⟨⟨fl_other r, by simp [meP], fun a ha b hb => ?_⟩, ?_, fun a ha b hb => ?_⟩, en_other hr.lo, fun a ha b hb => ?_⟩
    · have h1 := (fl_some hl ha).1
      have h2 := (me b hb).1
      omega
    · have := sb_other (r := r) hl
      rw [← sn_map r, List.pairwise_map] at this
      exact this
    · have h2 := (sn_some hl hb).1
      rcases List.mem_append.1 ha with ha | ha
      · have h1 := (fl_some hl ha).1; omega
      · have h1 := (me a ha).1; omega
    · have h2 := (en_some hr.lo hb).1
      rcases List.mem_append.1 ha with ha | ha
      · rcases List.mem_append.1 ha with ha | ha
        · have h1 := (fl_some hl ha).1; omega
        · have h1 := (me a ha).1; omega
      · have h1 := (sn_some hl ha).1; omega
  · unfold stP at hx
    rcases List.mem_append.1 hx with hx | hx
    · rcases List.mem_append.1 hx with hx | hx
      · rcases List.mem_append.1 hx with hx | hx
        · have h1 := (fl_some hl hx).1; omega
        · have h1 := (me x hx).1; omega
      · have h1 := (sn_some hl hx).1; omega
    · have h1 := (en_some hr.lo hx).1; omega
  · unfold stP at hx
    rcases List.mem_append.1 hx with hx | hx
    · rcases List.mem_append.1 hx with hx | hx
      · rcases List.mem_append.1 hx with hx | hx
        · exact (fl_some hl hx).2
        · exact (me x hx).2
      · exact (sn_some hl hx).2
    · exact (en_some hr.lo hx).2
end Go.Proofs.YtlmaopljihbdkaaGreat
namespace Go.Proofs.YtlmaopljihbdkaaGreat
open Go.RowKit
end Go.Proofs.YtlmaopljihbdkaaGreat
namespace Go.Proofs.YtlmaopljihbdkaaGreat
open Go.RowKit
end Go.Proofs.YtlmaopljihbdkaaGreat
namespace Go.Proofs.YtlmaopljihbdkaaGreat
open Go.RowKit
end Go.Proofs.YtlmaopljihbdkaaGreat
namespace Go.Proofs.YtlmaopljihbdkaaGreat
open Go.RowKit
end Go.Proofs.YtlmaopljihbdkaaGreat
namespace Go.Proofs.YtlmaopljihbdkaaGreat
open Go.RowKit
theorem forgetE {Q : Exit → Act → World → Prop} {x : Exit} {a : Act} {w0 : World} (R : World → Prop) (h0 : R w0) (h : ∀ w, R w → Q x a w) : Q x a w0 := h _ h0
def prs (g : Int → Nat) : Nat → List Int → List Oj
  | 0, _ => []
  | _ + 1, [] => []
  | _ + 1, [_] => []
  | n + 1, a :: s :: r => (a, s, r.take (g s)) :: prs g n (r.drop (g s))
def gI (s : Int) : Nat := (nbF s).toNat
def gS (s : Int) : Nat := (nbF (if s < 100 then s else 100)).toNat
theorem prs_more (g : Int → Nat) : ∀ (n m : Nat) (ws : List Int), ws.length ≤ n → ws.length ≤ m → prs g n ws = prs g m ws
  | 0, m, ws, h, _ => by
    have : ws = [] := List.eq_nil_of_length_eq_zero (by omega)
    subst this
    cases m <;> rfl
  | n + 1, 0, ws, _, h => by
    have : ws = [] := List.eq_nil_of_length_eq_zero (by omega)
    subst this
    rfl
  | n + 1, m + 1, [], _, _ => rfl
  | n + 1, m + 1, [_], _, _ => rfl
  | n + 1, m + 1, a :: s :: r, h1, h2 => by
    rw [prs, prs]
    simp only [List.length_cons] at h1 h2
    have : (r.drop (g s)).length ≤ r.length := by simp
    rw [prs_more g n m (r.drop (g s)) (by omega) (by omega)]
def prI (ws : List Int) : List Oj := prs gI ws.length ws
theorem prI_two (a s : Int) (r : List Int) : prI (a :: s :: r) = (a, s, r.take (gI s)) :: prI (r.drop (gI s)) := by
  unfold prI
  rw [List.length_cons, prs]
  congr 1
  exact prs_more gI _ _ _ (by simp; omega) (Nat.le_refl _)
theorem prI_short {ws : List Int} (h : ws.length < 2) : prI ws = [] := by
  match ws, h with
  | [], _ => rfl
  | [_], _ => rfl
theorem prs_len (g : Int → Nat) : ∀ (n : Nat) (ws : List Int), (prs g n ws).length ≤ ws.length
  | 0, _ => by simp [prs]
  | _ + 1, [] => by simp [prs]
  | _ + 1, [_] => by simp [prs]
  | n + 1, a :: s :: r => by
    rw [prs]
    have := prs_len g n (r.drop (g s))
    simp at this ⊢
    omega
theorem prs_lens (g : Int → Nat) : ∀ (n : Nat) (ws : List Int) (p : Oj), p ∈ prs g n ws → p.2.2.length ≤ ws.length
  | 0, _, p, h => by simp [prs] at h
  | _ + 1, [], p, h => by simp [prs] at h
  | _ + 1, [_], p, h => by simp [prs] at h
  | n + 1, a :: s :: r, p, h => by
    rw [prs, List.mem_cons] at h
    rcases h with rfl | h
    · simp; omega
    · have := prs_lens g n (r.drop (g s)) p h
      simp at this ⊢
      omega
theorem prs_bd' (g : Int → Nat) : ∀ (fs : List Oj) (n : Nat), (∀ p, p ∈ fs → p.2.2.length = g p.2.1) → fs.length ≤ n → prs g n (bdF fs) = fs
  | [], n, _, _ => by cases n <;> rfl
  | p :: r, 0, _, hl => by simp at hl
  | p :: r, n + 1, h, hl => by
    have hp := h p (by simp)
    have ih := prs_bd' g r n (fun q hq => h q (by simp [hq])) (by simp at hl; omega)
    rw [bdF, prs, ← hp, List.take_left, List.drop_left, ih]
theorem bdF_ge : ∀ (fs : List Oj), fs.length ≤ (bdF fs).length := fun fs => by rw [bdF_len]; omega
theorem one_g {p : Oj} (h : oneF p = 0) : p.2.2.length = gI p.2.1 ∧ p.2.2.length = gS p.2.1 := by
  obtain ⟨h1, h2, _⟩ := oneF_iff.1 h
  unfold gI gS
  rw [if_pos (by omega)]
  omega
def DirOf (ws : List Int) (fs : List Oj) : Prop := filF fs = 0 ∧ pkF fs = ws
theorem dir_I {ws : List Int} {fs : List Oj} (h : DirOf ws fs) : prI ws.tail = fs := by
  obtain ⟨h0, rfl⟩ := h
  have hi := filF_iff.1 h0
  unfold prI pkF
  exact prs_bd' gI fs _ (fun p hp => (one_g (hi.one p hp)).1) (bdF_ge fs)
theorem dir_S {ws : List Int} {fs : List Oj} (h : DirOf ws fs) : prs gS (ws.getD 0 0).toNat ws.tail = fs := by
  obtain ⟨h0, rfl⟩ := h
  have hi := filF_iff.1 h0
  unfold pkF
  simp only [List.getD_cons_zero, List.tail_cons, Int.toNat_natCast]
  exact prs_bd' gS fs _ (fun p hp => (one_g (hi.one p hp)).2) (Nat.le_refl _)
def dirB (ws : List Int) : Bool := decide (filF (prI ws.tail) = 0) && decide (pkF (prI ws.tail) = ws)
theorem dirB_iff {ws : List Int} : dirB ws = true ↔ DirOf ws (prI ws.tail) := by unfold dirB DirOf; simp
theorem dirB_S {ws : List Int} : dirB ws = (decide (filF (prs gS (ws.getD 0 0).toNat ws.tail) = 0) && decide (pkF (prs gS (ws.getD 0 0).toNat ws.tail) = ws)) := by
  rw [Bool.eq_iff_iff, dirB_iff]
  constructor
  · intro h
    have e := dir_S h
    rw [e]
    unfold DirOf at h
    simpa using h
  · intro h
    have h' : DirOf ws (prs gS (ws.getD 0 0).toNat ws.tail) := by unfold DirOf; simpa using h
    have e := dir_I h'
    rw [e]; exact h'
theorem dirB_pd {ws : List Int} (hne : ws ≠ []) : decide (pdR (prI ws.tail) = ws) = dirB ws := by
  rw [Bool.eq_iff_iff, dirB_iff]
  unfold pdR DirOf
  by_cases h : filF (prI ws.tail) = 0
  · rw [if_pos h]; simp [h]
  · rw [if_neg h]; simp [h]; exact fun e => hne (by first | exact e | exact e.symm)
def udC (ws : List Int) : Int := if wordsF ws = 0 then (if ws = [] then 0 else if dirB ws = true then 0 else 5) else wordsF ws
def udR (ws : List Int) : List Oj := if wordsF ws = 0 then (if ws = [] then [] else if dirB ws = true then prI ws.tail else []) else []
end Go.Proofs.YtlmaopljihbdkaaGreat
namespace Go.Proofs.YtlmaopljihbdkaaGreat
open Go.RowKit
end Go.Proofs.YtlmaopljihbdkaaGreat
namespace Go.Proofs.YtlmaopljihbdkaaGreat
open Go.RowKit
set_option maxHeartbeats 4000000 in
set_option maxRecDepth 4000 in
theorem filesIn {S : Nat → Prop} {w : World} {v : Value} {ws : List Int} (hv : RdI S w v ws) (hm : ws.length ≤ 64) (hw : ∀ x, x ∈ ws → 0 ≤ x ∧ x ≤ 65535) :
    Calls Tryz.prog 141 #[v] w fun e w' => ∃ z, e = .returned z ∧ Below w.heap.size w w' ∧ BuiltFi (w.heap.size ≤ ·) w' z (prI ws).length (prI ws) := by
  have HV := hide hv
  have HW := hide hw
  have HPl := hide (prs_len gI ws.length ws)
  obtain ⟨i0, hi, hz0, hz1, hz2⟩ := info_parts Tryz.infoFl
  obtain ⟨fs, hfs⟩ : ∃ fs, prI ws = fs := ⟨_, rfl⟩
  have hfl : fs.length ≤ 64 := by rw [← hfs]; unfold prI; exact Nat.le_trans HPl.out hm
  have HFs := hide hfs
  rw [hfs]
  clear hv hfs hw HPl
  go_enter Tryz.func141, Tryz.ntmps141
  go_wp2
  go_loopw [0, 3] (fun u v wr => ∃ (us : List Int) (k : Nat), us.length ≤ ws.length ∧ k ≤ fs.length ∧ Hid (∀ x, x ∈ us → x ∈ ws) ∧ Hid (fs.drop k = prI us) ∧ Hid (RdI S w u us) ∧ Hid (BuiltFi (w.heap.size ≤ ·) wr v k fs) ∧ Hid (Below w.heap.size w wr)) (fun u _ _ => match u with | .slice _ n _ => n | _ => 0)
  case atStart => exact ⟨ws, 0, Nat.le_refl _, Nat.zero_le _, fun _ h => h, HFs.out.symm, HV.out, BuiltFi.nil _ _ _, Below.refl _ _⟩
  case round =>
    obtain ⟨us, k, hul, hkl, HIn, HD, HU, HBu, HB⟩ := hrel
    obtain ⟨ao, c, hu⟩ := HU.out.shape
    subst hu
    by_cases h2 : 2 ≤ us.length
    · match us, h2 with
      | a :: s :: r, _ =>
        obtain ⟨n, hn⟩ : ∃ n, r.length = n := ⟨_, rfl⟩
        have hl2 : (a :: s :: r).length = n + 2 := by simp [hn]
        rw [hl2] at HU hul
        have HA := HU.out.at (k := 0) (by simp)
        have HA1 := HU.out.at (k := 1) (by simp)
        obtain ⟨b, off, rfl, q0⟩ := HA
        obtain ⟨b', off', e', q1⟩ := HA1
        injection e' with e'
        injection e' with e1 e2
        subst e1 e2
        have g0 : wr.cell? ⟨b, off, none⟩ = some (.int .i64 a) := by have := cell_later HB.out q0; simpa using this
        have g1 : wr.cell? ⟨b, off + 1, none⟩ = some (.int .i64 s) := by have := cell_later HB.out q1; simpa using this
        have hs := HW.out s (HIn.out s (by simp))
        have HPr := hide (prI_two a s r)
        rw [HPr.out] at HD
        have hbl := World.block_lt_of_cell? _ _ g0
        clear q0 q1
        rw [hl2]
        go_wp2_with fail
        go_region
        have hcap : n + 2 ≤ c := by obtain ⟨_, c', e, _⟩ := HU.out; injection e with _ e2 e3; simp at e3; omega
        refine forgetE (fun wx => Below wr.heap.size wr wx ∧ wx.heap.size = wr.heap.size + 1 ∧ (wx.cell? ⟨wr.heap.size, 0, none⟩ = some (.int .i64 a) ∧ wx.cell? ⟨wr.heap.size, 1, none⟩ = some (.int .i64 s) ∧ wx.cell? ⟨wr.heap.size, 2, none⟩ = some (.slice none 0 0)) ∧ ∀ o, wx.frozen? ⟨wr.heap.size, o, none⟩ = false) ⟨below_on (below_alloc _ _) (below_drewN _ 1), by simp, ⟨by simp [go_sem], by simp [go_sem], by simp [go_sem]⟩, fun o => by simp [go_sem]⟩ ?_
        rintro W1 ⟨hb1, hs1, ⟨f0, f1, f2⟩, ff⟩
        have HB1 := hide hb1
        have HFf := hide ff
        clear hb1 ff g0 g1
        have HFor := hide (fun W => blocksForI s hs.1 (by omega) W)
        obtain ⟨A, hA⟩ : ∃ A : Option Addr, (if c = 2 then some (⟨b, off, none⟩ : Addr) else some ⟨b, off + 2, none⟩) = A := ⟨_, rfl⟩
        have hMx : ∃ M : Nat, nbF s = (M : Int) := ⟨(nbF s).toNat, by unfold nbF; omega⟩
        obtain ⟨M, hM⟩ := hMx
        rw [hM] at HFor
        have HGM : Hid (gI s = M) := by unfold gI; rw [Hid, hM]; rfl
        go_wp2_with fail
        refine (HFor.out _).mono ?_
        rintro e w2 ⟨rfl, hw2⟩
        have hw2 := hw2.symm
        subst hw2
        have hmx : ∃ m : Nat, min (M : Int) (n : Int) = (m : Int) ∧ m = min M n := ⟨min M n, by omega, rfl⟩
        obtain ⟨m, hmin, hm2⟩ := hmx
        have hmn : m ≤ n := by omega
        have HTk : Hid (r.take M = r.take m) := by
          rw [Hid]
          by_cases e : M ≤ n
          · rw [show m = M by omega]
          · rw [List.take_of_length_le (by omega), List.take_of_length_le (by omega)]
        have HDr : Hid (r.drop M = r.drop m) := by
          rw [Hid]
          by_cases e : M ≤ n
          · rw [show m = M by omega]
          · rw [List.drop_eq_nil_of_le (by omega), List.drop_eq_nil_of_le (by omega)]
        have HR1 : Hid (RdI S w (.slice A n (c - 2)) r) := by
          have h := HU.out.from 2 (by omega)
          have e : slA (some ⟨b, off, none⟩) c 2 = A := by rw [← hA]; unfold slA; simp [Addr.add_lit]
          rw [e] at h
          exact h
        have HR2 := hide (HR1.out.upto m hmn)
        have HR3 := hide (HR1.out.from m hmn)
        obtain ⟨A2, hA2⟩ : ∃ A2, (if c - 2 = m then A else Option.map (fun x => x.add m) A) = A2 := ⟨_, rfl⟩
        have eA2 : slA A (c - 2) m = A2 := by rw [← hA2]; rfl
        rw [eA2] at HR3
        have hzz := HB.out.size
        have HCw := hide (copyWords ((HR2.out.later HB.out).later HB1.out) (by simp; omega))
        have hlt : (r.take m).length = m := by simp; omega
        have HLt := hide hlt
        have hmc : m ≤ c - 2 := by omega
        clear hm2 eA2 hlt
        go_wp2_with fail
        refine HCw.out.mono ?_
        rintro e w3 ⟨z3, rfl, hb3, ho3⟩
        obtain ⟨a3, c3, hz3⟩ := ho3.shape
        rw [HLt.out] at hz3
        subst hz3
        have k0 := cell_later hb3 f0
        have k1 := cell_later hb3 f1
        have k2 := cell_later hb3 f2
        have kf : ∀ o, w3.frozen? ⟨wr.heap.size, o, none⟩ = false := fun o => ((bcell hb3).2 _ _ (by omega)).trans (HFf.out o)
        have kf2 := kf 2
        have hwr : Wr (fun y => y = wr.heap.size) w3 (w3.setCell ⟨wr.heap.size, 2, none⟩ (.slice a3 m c3)) := (Wr.refl (fun y => y = wr.heap.size) _).setCell (p := ⟨wr.heap.size, 2, none⟩) rfl _
        have HO4 := hide ((ho3.wr hwr (fun b h1 _ e => by omega)).mono (show wr.heap.size ≤ W1.heap.size by omega))
        have HB4 := hide ((below_on HB1.out hb3).setCell (p := ⟨wr.heap.size, 2, none⟩) (Nat.le_refl _) (.slice a3 m c3))
        have hz3' := hb3.size
        obtain ⟨V2, Bk2, hown, hpr, hin⟩ := HBu.out
        have HOw0 := hide hown
        have HPr := hide hpr
        have HIn2 := hide hin
        have hkf : k < fs.length := by
          have := HD.out
          by_cases e : k < fs.length
          · exact e
          · rw [List.drop_eq_nil_of_le (by omega)] at this
            cases this
        have HG : Hid (fs.getD k oj0 = (a, s, r.take m)) := by
          have h := HD.out
          rw [List.drop_eq_getElem_cons hkf] at h
          injection h with h1 h2
          simp only [List.getD, List.getElem?_eq_getElem hkf, Option.getD_some]
          rw [Hid, h1, HGM.out, HTk.out]
        have HD2 : Hid (fs.drop (k + 1) = prI (r.drop m)) := by
          have h := HD.out
          rw [List.drop_eq_getElem_cons hkf] at h
          injection h with h1 h2
          rw [Hid, h2, HGM.out, HDr.out]
        have HIn3 : Hid (∀ x, x ∈ r.drop m → x ∈ ws) := fun x hx => HIn.out x (by simp [List.mem_of_mem_drop hx])
        clear hb3 ho3 hwr hown hpr hin f0 f1 f2 HCw
        go_wp2_with (at_builtin; refine wpList_append_lies _ rfl _ _ _ rfl 0 114 i0 (.agg #[.int .i64 0, .int .i64 0, .slice none 0 0]) 3 40 Tryz.underlying111 hi hz0 hz1 hz2 rfl (by omega) _ k _ (by rfl) (ownsRow_later (ownsRow_later HOw0.out HB4.out) (below_alloc (w3.setCell ⟨wr.heap.size, 2, none⟩ (.slice a3 m c3)) (.cells #[.int .i64 a, .int .i64 s, .slice a3 m c3] 114))) ⟨w3.heap.size, 0, none⟩ 1 1 [.int .i64 a, .int .i64 s, .slice a3 m c3] (by rfl) (by rfl) (by have h := World.news_of_block (cs := #[.int .i64 a, .int .i64 s, .slice a3 m c3]) (t := 114) (fr := (0, 0)) (heap_alloc_new (w3.setCell ⟨wr.heap.size, 2, none⟩ (.slice a3 m c3)) (.cells #[.int .i64 a, .int .i64 s, .slice a3 m c3] 114)); simpa using h) cellsFi_one (by omega) (by unfold maxLen; omega) (by omega) (Nat.zero_le _) (w3.heap.size + 1) (by simp) ?_; intro g cap w5 hown5 hgrow hat hlt5)
        have HS := hide (BuiltFi.step (P' := (w.heap.size ≤ ·)) HIn2.out HOw0.out HPr.out (fun _ h => h) (fun b hb => by omega) HB4.out (by rw [HG.out]; exact HO4.out) (below_alloc (w3.setCell ⟨wr.heap.size, 2, none⟩ (.slice a3 m c3)) (.cells #[.int .i64 a, .int .i64 s, .slice a3 m c3] 114)) (by rw [HG.out]; exact hown5) hgrow (by simpa using hat))
        have HB5 := hide ((below_on (below_on HB.out HB4.out) (below_alloc (w3.setCell ⟨wr.heap.size, 2, none⟩ (.slice a3 m c3)) (.cells #[.int .i64 a, .int .i64 s, .slice a3 m c3] 114))).grown hgrow (by simp; omega) (fun r hr => HPr.out r hr))
        have hdl : (r.drop m).length ≤ ws.length := by simp; omega
        clear hown5 hgrow hat hlt5
        go_wp2
        go_roundw
        case rel => exact ⟨r.drop m, k + 1, hdl, hkf, HIn3.out, HD2.out, HR3.out, HS.out, HB5.out⟩
        case measure => first | (simp; omega) | omega
    · have hsh : us.length < 2 := by omega
      have HE := hide (prI_short hsh)
      obtain ⟨n, hn⟩ : ∃ n, us.length = n := ⟨_, rfl⟩
      have h2' : ¬ (2 : Int) ≤ (n : Int) := by omega
      have h2n : ¬ 2 ≤ n := by omega
      rw [hn]
      rw [HE.out] at HD
      have hkl2 : k = fs.length := by
        have := congrArg List.length HD.out
        simp at this
        omega
      subst hkl2
      clear h2 hsh hn
      go_wp2
      go_ret
      exact ⟨_, rfl, HB.out, HBu.out⟩
end Go.Proofs.YtlmaopljihbdkaaGreat
namespace Go.Proofs.YtlmaopljihbdkaaGreat
open Go.RowKit
theorem wordsF_in {xs : List Int} (h : wordsF xs = 0) : xs.length ≤ 64 ∧ ∀ x, x ∈ xs → 0 ≤ x ∧ x ≤ 65535 := by
  obtain ⟨h1, h2⟩ := wordsF_zero h
  refine ⟨h1, fun x hx => ?_⟩
  obtain ⟨i, hi, rfl⟩ := List.mem_iff_getElem.1 hx
  have := h2 i hi
  simpa [List.getD, hi] using this
theorem udC_bad {ws : List Int} (h : wordsF ws ≠ 0) : udC ws = wordsF ws ∧ udR ws = [] := by unfold udC udR; rw [if_neg h, if_neg h]; exact ⟨rfl, rfl⟩
theorem udC_nil : udC [] = 0 ∧ udR [] = [] := by
  unfold udC udR
  by_cases h : wordsF [] = 0
  · rw [if_pos h, if_pos h, if_pos rfl, if_pos rfl]; exact ⟨rfl, rfl⟩
  · exact absurd (by unfold wordsF wF; simp) h
theorem udC_yes {ws : List Int} (h : wordsF ws = 0) (hne : ws ≠ []) (hd : dirB ws = true) : udC ws = 0 ∧ udR ws = prI ws.tail := by unfold udC udR; rw [if_pos h, if_pos h, if_neg hne, if_neg hne, if_pos hd, if_pos hd]; exact ⟨rfl, rfl⟩
theorem udC_no {ws : List Int} (h : wordsF ws = 0) (hne : ws ≠ []) (hd : dirB ws = false) : udC ws = 5 ∧ udR ws = [] := by unfold udC udR; rw [if_pos h, if_pos h, if_neg hne, if_neg hne, if_neg (by rw [hd]; decide), if_neg (by rw [hd]; decide)]; exact ⟨rfl, rfl⟩
theorem Tryz.fldL (x : Int) (a : Option Addr) (n c : Nat) (w : World) : (Instr.field 166 (.agg #[.int .i64 x, .slice a n c]) 1).run Tryz.prog w = .ok (.slice a n c) w := by kernel_rfl
set_option maxHeartbeats 1000000 in
set_option maxRecDepth 4000 in
theorem implUnpackDir {S : Nat → Prop} {w : World} {v : Value} {ws : List Int} (hv : RdI S w v ws) :
    Calls Tryz.prog 98 #[v] w (EndsFi (udC ws) (udR ws) w) := by
  obtain ⟨ao, c, rfl⟩ := hv.shape
  have hml := hv.max
  have HV := hide hv
  clear hv
  obtain ⟨z, hz⟩ : ∃ z, wordsF ws = z := ⟨_, rfl⟩
  have HZ := hide hz
  clear hz
  have HC := hide (wordsFault (HV.out.later (below_alloc w (.cells #[.int .i64 0, .slice none 0 0] 139))))
  rw [HZ.out] at HC
  by_cases h0 : z = 0
  · subst h0
    obtain ⟨n, hn⟩ : ∃ n, ws.length = n := ⟨_, rfl⟩
    have HN := hide hn
    rw [hn] at HV HC hml ⊢
    clear hn
    have HIn := hide (wordsF_in HZ.out)
    by_cases hn0 : n = 0
    · have hnil : ws = [] := List.eq_nil_of_length_eq_zero (by rw [HN.out]; exact hn0)
      subst hn0 hnil
      rw [udC_nil.1, udC_nil.2]
      go_enter Tryz.func98, Tryz.ntmps98
      go_wp2_with fail
      refine HC.out.mono ?_
      rintro e w1 ⟨rfl, q, hq⟩
      have HRs : Hid (ResF w w1) := hq ▸ (ResF.start w 139).later (below_drewN _ q)
      have c0 := HRs.out.c0
      have c1 := HRs.out.c1
      have F0 := HRs.out.fr 0
      have F1 := HRs.out.fr 1
      clear hq
      go_wp2
      refine bodyPost_ret (v := .agg #[.int .i64 0, .slice none 0 0]) (by simp [results, Tryz.results98, go_sem, c0, c1]) rfl ⟨_, rfl, HRs.out.shut _ _, OwJ_nil _ _⟩
    · have hne : ws ≠ [] := by rintro rfl; exact hn0 HN.out.symm
      have hcap : n ≤ c := by obtain ⟨_, c', e, _⟩ := HV.out; injection e with _ e2 e3; omega
      obtain ⟨b, off, rfl, _⟩ := HV.out.at (k := 0) (by rw [HN.out]; omega)
      have HT := hide (HV.out.from 1 (by omega))
      have htl : ws.drop 1 = ws.tail := List.drop_one
      rw [htl] at HT
      obtain ⟨A, hA⟩ : ∃ A : Option Addr, (if c = 1 then some (⟨b, off, none⟩ : Addr) else some ⟨b, off + 1, none⟩) = A := ⟨_, rfl⟩
      have eA : slA (some ⟨b, off, none⟩) c 1 = A := by rw [← hA]; unfold slA; simp [Addr.add_lit]
      rw [eA] at HT
      have HPd := hide (dirB_pd hne)
      have HY := hide (fun h => udC_yes HZ.out hne h)
      have HNo := hide (fun h => udC_no HZ.out hne h)
      have HTm : Hid (ws.tail.length ≤ 64 ∧ ∀ x, x ∈ ws.tail → 0 ≤ x ∧ x ≤ 65535) := ⟨by have := HIn.out.1; simp; omega, fun x hx => HIn.out.2 x (List.mem_of_mem_tail hx)⟩
      have hn0b : ((n : Int) == 0) = false := by simp; omega
      have hnp : (1 : Int) ≤ (n : Int) := by omega
      have HPl := hide (Nat.le_trans (prs_len gI ws.tail.length ws.tail) HTm.out.1)
      clear htl eA
      go_enter Tryz.func98, Tryz.ntmps98
      go_wp2_with fail
      refine HC.out.mono ?_
      rintro e w1 ⟨rfl, q, hq⟩
      have HRs : Hid (ResF w w1) := hq ▸ (ResF.start w 139).later (below_drewN _ q)
      have hw1 := HRs.out.lt
      have HC2 := hide (filesIn (HT.out.later HRs.out.below) HTm.out.1 HTm.out.2)
      clear hq HC
      go_wp2_with fail
      refine HC2.out.mono ?_
      rintro e w2 ⟨z2, rfl, hb, ho⟩
      have HRs2 := hide (HRs.out.later hb)
      have HO := hide (ho.ow rfl (by have : (prI ws.tail).length ≤ 64 := HPl.out; omega))
      have HC3 := hide (implPackDir HO.out.rd)
      obtain ⟨a2, c2, hz2⟩ := ho.shape
      obtain ⟨l, hl⟩ : ∃ l, (prI ws.tail).length = l := ⟨_, rfl⟩
      rw [hl] at hz2
      subst hz2
      have hz2' := hb.size
      clear hb ho HC2 hl
      go_wp2_with fail
      refine HC3.out.mono ?_
      rintro e w3 ⟨z3, rfl, hb, ho⟩
      have HRs3 := hide (HRs2.out.later hb)
      have HO3 := hide (HO.out.wr (Wr.of_below hb fun _ => False) fun _ _ => id)
      have HC4 := hide (slicesEqualR ho.rd (HV.out.later HRs3.out.below))
      rw [HPd.out] at HC4
      obtain ⟨a3, c3, hz3⟩ := ho.rd.shape
      have hz3' := hb.size
      subst hz3
      have hfl := Tryz.fldL (pdC (prI ws.tail)) a3 (pdR (prI ws.tail)).length c3 w3
      clear hb ho HC3
      by_cases hd : dirB ws = true
      · rw [hd] at HC4
        have HY2 := hide (HY.out hd)
        go_wp2_with fail
        refine HC4.out.mono ?_
        rintro e w4 ⟨rfl, q, hq⟩
        have HRs4 : Hid (ResF w w4) := hq ▸ HRs3.out.later (below_drewN _ q)
        have HO4 : Hid (OwJ _ w4 (.slice a2 l c2) (prI ws.tail)) := hq ▸ HO3.out.wr (Wr.of_below (below_drewN _ q) fun _ => False) fun _ _ => id
        have hs4 : w4.heap.size = w3.heap.size := by rw [hq]; simp
        have HFn := hide (ret_files (x := .int .i64 0) HRs4.out.below (Nat.le_refl _) HO4.out (fun b hb => ⟨by have := hb.1; omega, by have := hb.2; omega⟩))
        have c0 := HRs4.out.c0
        have c1 := HRs4.out.c1
        have F0 := HRs4.out.fr 0
        have F1 := HRs4.out.fr 1
        clear hq HC4
        go_wp2
        refine bodyPost_ret (v := .agg #[.int .i64 0, .slice a2 l c2]) (by simp [results, Tryz.results98, go_sem, c0, c1]) rfl ⟨_, by rw [HY2.out.1], HFn.out.1, by rw [HY2.out.2]; exact HFn.out.2⟩
      · have hd' : dirB ws = false := by simpa using hd
        rw [hd'] at HC4
        have HN2 := hide (HNo.out hd')
        go_wp2_with fail
        refine HC4.out.mono ?_
        rintro e w4 ⟨rfl, q, hq⟩
        have HRs4 : Hid (ResF w w4) := hq ▸ HRs3.out.later (below_drewN _ q)
        have c0 := HRs4.out.c0
        have c1 := HRs4.out.c1
        have F0 := HRs4.out.fr 0
        have F1 := HRs4.out.fr 1
        clear hq HC4
        go_wp2
        refine bodyPost_ret (v := .agg #[.int .i64 5, .slice none 0 0]) (by simp [results, Tryz.results98, go_sem, c0, c1]) rfl ⟨_, by rw [HN2.out.1], HRs4.out.shut _ _, by rw [HN2.out.2]; exact OwJ_nil _ _⟩
  · have h0b : (z == 0) = false := by simpa using h0
    have HE := hide (udC_bad (ws := ws) (by rw [HZ.out]; exact h0))
    rw [HE.out.1, HE.out.2, HZ.out]
    obtain ⟨n, hn⟩ : ∃ n, ws.length = n := ⟨_, rfl⟩
    rw [hn] at HC ⊢
    clear hn
    go_enter Tryz.func98, Tryz.ntmps98
    go_wp2_with fail
    refine HC.out.mono ?_
    rintro e w1 ⟨rfl, q, hq⟩
    have HRs : Hid (ResF w w1) := hq ▸ (ResF.start w 139).later (below_drewN _ q)
    have c0 := HRs.out.c0
    have c1 := HRs.out.c1
    have F0 := HRs.out.fr 0
    have F1 := HRs.out.fr 1
    clear hq
    go_wp2
    refine bodyPost_ret (v := .agg #[.int .i64 z, .slice none 0 0]) (by simp [results, Tryz.results98, go_sem, c0, c1]) rfl ⟨_, rfl, HRs.out.shut _ _, OwJ_nil _ _⟩
end Go.Proofs.YtlmaopljihbdkaaGreat
namespace Go.Proofs.YtlmaopljihbdkaaGreat
open Go.RowKit Go.Maps Go.Shelf
attribute [local go_sem] Oper.semAt_some
theorem SeenS.empty {S : Nat → Prop} (w : World) : SeenS S (w.alloc (.map #[] 0)) w.heap.size 0 fun _ => [] :=
  ⟨_, World.ownsMap_made w Tryz.prog 2 asIs, fun a _ _ => ⟨.slice none 0 0, rfl, ⟨none, 0, rfl, Nat.zero_le _, fun h => absurd rfl h⟩⟩, fun a => ⟨fun h => absurd h (by simp [has_eq]), fun h => absurd rfl h.2.2⟩⟩
end Go.Proofs.YtlmaopljihbdkaaGreat
