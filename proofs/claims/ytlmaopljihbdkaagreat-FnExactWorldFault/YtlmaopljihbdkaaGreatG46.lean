/- Fs1 Fs2 Fs3 Fs4 Fr1 MathRn MathFf Ld0 Ld1 in one text: what each says stands at its head below. -/
import Derived.Test.YtlmaopljihbdkaaGreatG35
import Derived.Test.YtlmaopljihbdkaaGreatG45
import Derived.Shelf.SlSortCmp.WholeK
import Derived.Shelf.SlSortCmp.NoneTotal
import Derived.Test.YtlmaopljihbdkaaGreatG15
import Derived.Test.YtlmaopljihbdkaaGreatG19
import Derived.Test.YtlmaopljihbdkaaGreatG34
import Derived.Test.YtlmaopljihbdkaaGreatG20
import Derived.Test.YtlmaopljihbdkaaGreatG17
import Derived.Test.YtlmaopljihbdkaaGreatG10
import Derived.Test.YtlmaopljihbdkaaGreatG33
import Derived.Test.YtlmaopljihbdkaaGreatG16
import Derived.Test.YtlmaopljihbdkaaGreatG08
import Derived.Deep.RegionLaw
import Derived.Deep.RegionHeld3
import Derived.Deep.CutRange
namespace Go.Proofs.YtlmaopljihbdkaaGreat
open Go.RowKit Go.Maps Go.Shelf Go.Sort
end Go.Proofs.YtlmaopljihbdkaaGreat
namespace Go.Proofs.YtlmaopljihbdkaaGreat
open Go.RowKit Go.Maps Go.Shelf Go.Sort
end Go.Proofs.YtlmaopljihbdkaaGreat
namespace Go.Proofs.YtlmaopljihbdkaaGreat
open Go.RowKit
end Go.Proofs.YtlmaopljihbdkaaGreat
namespace Go.Proofs.YtlmaopljihbdkaaGreat
open Go.RowKit
theorem IvJ.up {lo hi lo' : Nat} {w : World} {v : Value} {ps : List Oj} (h : IvJ lo hi w v ps) (h1 : lo' ≤ lo) (h2 : hi ≤ w.heap.size) : IvJ lo' w.heap.size w v ps := by
  obtain ⟨S, k0, k1, k2⟩ := h
  exact ⟨S, Nat.le_refl _, fun b hb => ⟨Nat.le_trans h1 (k1 b hb).1, Nat.lt_of_lt_of_le (k1 b hb).2 h2⟩, k2⟩
end Go.Proofs.YtlmaopljihbdkaaGreat
namespace Go.Proofs.YtlmaopljihbdkaaGreat
open Go.RowKit
end Go.Proofs.YtlmaopljihbdkaaGreat
namespace Go.Proofs.YtlmaopljihbdkaaGreat
open Go.RowKit
end Go.Proofs.YtlmaopljihbdkaaGreat
namespace Go.Proofs.YtlmaopljihbdkaaGreat
open Go.RowKit
theorem words_allF {xs : List Int} (h1 : xs.length ≤ 64) (h2 : ∀ x, x ∈ xs → 0 ≤ x ∧ x ≤ 65535) : wordsF xs = 0 := by
  unfold wordsF
  refine wF_ok h1 (fun i hi => ?_)
  have := h2 xs[i] (List.getElem_mem hi)
  simpa [List.getD, hi] using this
theorem bdF_small : ∀ {fs : List Oj}, (∀ p, p ∈ fs → oneF p = 0) → ∀ x, x ∈ bdF fs → 0 ≤ x ∧ x ≤ 99
  | [], _, x, hx => by simp [bdF] at hx
  | p :: r, h, x, hx => by
    obtain ⟨⟨h1, h2, h3⟩, _, h4⟩ := oneF_iff.1 (h p (by simp))
    rw [bdF, List.mem_cons, List.mem_cons, List.mem_append] at hx
    rcases hx with rfl | rfl | hx | hx
    · omega
    · omega
    · have := List.all_eq_true.1 h4 x hx
      unfold inB at this
      simp at this
      omega
    · exact bdF_small (fun q hq => h q (by simp [hq])) x hx
theorem pk_words {fs : List Oj} (h : filF fs = 0) : wordsF (pkF fs) = 0 := by
  have hi := filF_iff.1 h
  have hl := pkF_small h
  refine words_allF (by omega) (fun x hx => ?_)
  unfold pkF at hx
  rcases List.mem_cons.1 hx with rfl | hx
  · have := hi.len
    omega
  · have := bdF_small hi.one x hx
    omega
theorem dir_back {fs : List Oj} (h : filF fs = 0) : udC (pkF fs) = 0 ∧ udR (pkF fs) = fs := by
  have hw := pk_words h
  have hd : DirOf (pkF fs) fs := ⟨h, rfl⟩
  have he := dir_I hd
  have hb : dirB (pkF fs) = true := by rw [dirB_iff, he]; exact hd
  have hne : pkF fs ≠ [] := by unfold pkF; simp
  constructor
  · unfold udC; rw [if_pos hw, if_neg hne, if_pos hb]
  · unfold udR; rw [if_pos hw, if_neg hne, if_pos hb, he]
end Go.Proofs.YtlmaopljihbdkaaGreat
namespace Go.Proofs.YtlmaopljihbdkaaGreat
open Go.RowKit
def ldN (M : Int → List Int) (k : Nat) : Int := (M 2).getD k 0
def ldB (M : Int → List Int) : List Int := blksF (udR (M 1))
def ldK (M : Int → List Int) : Nat := (if ldN M 4 < 14 then ldN M 4 else 14).toNat
def ldW (M : Int → List Int) (i : Nat) : List Int := M (sfV (ldN M 2 + 1 + (i : Int)))
def ldE (M : Int → List Int) (n : Nat) : List Oj := (List.range n).flatMap fun i => ueR (ldW M i)
def ldA (M : Int → List Int) : Rf := ⟨ldN M 0, ldN M 1, ldN M 2, ldN M 3, (ldB M).flatMap M, ldE M (ldK M)⟩
def hlAll (M : Int → List Int) (L : List (Int × List Int)) : Prop := ∀ p, p ∈ L → M p.1 = p.2
def psB (a : Int) : Prop := (24 ≤ a ∧ a < 38) ∨ (3 ≤ a ∧ a ≤ 22)
instance (a : Int) : Decidable (psB a) := by unfold psB; infer_instance
def hlRest (M : Int → List Int) (L : List (Int × List Int)) : Prop := ∀ a : Nat, a < 40 → M (a : Int) ≠ [] → (∀ p, p ∈ L → p.1 ≠ (a : Int)) → psB (a : Int)
def hlP (M : Int → List Int) (r : Rf) : Prop := hlAll M (stP r) ∧ hlRest M (stP r)
instance (M : Int → List Int) (L : List (Int × List Int)) : Decidable (hlAll M L) := by unfold hlAll; infer_instance
instance (M : Int → List Int) (L : List (Int × List Int)) : Decidable (hlRest M L) := by unfold hlRest; infer_instance
instance (M : Int → List Int) (r : Rf) : Decidable (hlP M r) := by unfold hlP; infer_instance
def lmW (M : Int → List Int) (i : Nat) : List Int := M (24 + (ldN M 2 + 1 + (i : Int)) % 14)
structure LmD (M : Int → List Int) : Prop where
  len : (M 2).length = 5
  dir : udC (M 1) = 0
  most : ldN M 4 ≤ 14
  each : ∀ i : Nat, (i : Int) < ldN M 4 → ueC (lmW M i) = 0
def lmS (M : Int → List Int) : List Int := match udR (M 1) with
  | [] => []
  | p :: _ => p.2.2.flatMap M
def lmA (M : Int → List Int) : Rf := ⟨ldN M 0, ldN M 1, ldN M 2, ldN M 3, lmS M, (List.range (ldN M 4).toNat).map fun i => enO (lmW M i)⟩
theorem mem_me (r : Rf) : (2, [r.tm, r.vt, r.si, r.st, (r.lg.length : Int)]) ∈ stP r := by simp [stP, meP]
theorem mem_sn {r : Rf} {x : Int × List Int} (h : x ∈ snP r) : x ∈ stP r := by simp [stP, h]
theorem mem_en {r : Rf} {p : Oj} (h : p ∈ r.lg) : (sfV p.1, peR p) ∈ stP r := by
  unfold stP enP
  exact List.mem_append_right _ (List.mem_map.2 ⟨p, h, rfl⟩)
theorem chunks (xs : List Int) : ∀ (n : Nat), ((List.range n).flatMap fun k => (xs.drop (8 * k)).take 8) = xs.take (8 * n) := by
  intro n
  induction n with
  | zero => simp
  | succ n ih =>
    rw [List.range_succ, List.flatMap_append, ih]
    simp only [List.flatMap_cons, List.flatMap_nil, List.append_nil]
    rw [show 8 * (n + 1) = 8 * n + 8 by omega, List.take_add]
theorem fm_range {M : Int → List Int} : ∀ (L : List Int), L.flatMap M = (List.range L.length).flatMap fun k => M (L.getD k 0) := by
  intro L
  have : L = (List.range L.length).map fun k => L.getD k 0 := by
    refine List.ext_getElem (by simp) fun i h1 h2 => ?_
    simp [List.getD, h1]
  conv => lhs; rw [this]
  rw [List.flatMap_map]
theorem flatMap_same {α β : Type} {f g : α → List β} : ∀ (L : List α), (∀ a, a ∈ L → f a = g a) → L.flatMap f = L.flatMap g := by
  intro L
  induction L with
  | nil => intro _; rfl
  | cons a L ih =>
    intro h
    rw [List.flatMap_cons, List.flatMap_cons, h a (by simp), ih fun b hb => h b (by simp [hb])]
theorem flatMap_one {α β : Type} (f : α → β) : ∀ (L : List α), L.flatMap (fun a => [f a]) = L.map f := by
  intro L
  induction L with
  | nil => rfl
  | cons a L ih => rw [List.flatMap_cons, ih]; rfl
theorem ld_back {M : Int → List Int} {r : Rf} (h : rfF r = 0) (hp : hlP M r) : LmD M ∧ lmA M = r ∧ ldA M = r := by
  obtain ⟨ha, hr⟩ := hp
  have hi := rfF_iff.1 h
  have hl := daF_len hi.da
  have h2 : M 2 = [r.tm, r.vt, r.si, r.st, (r.lg.length : Int)] := ha _ (mem_me r)
  have h14 := (logF_iff.1 hi.lo).1
  have n0 : ldN M 0 = r.tm := by unfold ldN; rw [h2]; rfl
  have n1 : ldN M 1 = r.vt := by unfold ldN; rw [h2]; rfl
  have n2 : ldN M 2 = r.si := by unfold ldN; rw [h2]; rfl
  have n3 : ldN M 3 = r.st := by unfold ldN; rw [h2]; rfl
  have n4 : ldN M 4 = (r.lg.length : Int) := by unfold ldN; rw [h2]; rfl
  -- the directory
  have hdir : udC (M 1) = 0 ∧ udR (M 1) = sfL r := by
    by_cases h0 : r.si = 0
    · have e : sfL r = [] := by unfold sfL; rw [if_pos h0]
      have hfl : flP r = [] := by unfold flP; rw [if_pos e]
      have h1 : M 1 = [] := by
        refine Classical.byContradiction fun hne => ?_
        have := hr 1 (by omega) hne fun p hpm => by
          unfold stP at hpm
          rw [hfl, List.nil_append] at hpm
          rcases List.mem_append.1 hpm with hpm | hpm
          · rcases List.mem_append.1 hpm with hpm | hpm
            · obtain rfl : p = _ := by simpa [meP] using hpm
              show (2 : Int) ≠ 1
              decide
            · have := (sn_some hl hpm).1; omega
          · have := (en_some hi.lo hpm).1; omega
        unfold psB at this
        omega
      rw [h1, e]
      exact udC_nil
    · have e : sfL r ≠ [] := by unfold sfL; rw [if_neg h0]; simp
      have hm : (1, pdR (sfL r)) ∈ stP r := by unfold stP flP; rw [if_neg e]; simp
      have h1 : M 1 = pkF (sfL r) := by
        have := ha _ hm
        unfold pdR at this
        rw [if_pos (sf_fil r hl)] at this
        exact this
      rw [h1]
      exact dir_back (sf_fil r hl)
  obtain ⟨hd1, hd2⟩ := hdir
  -- the words
  have hbl : ldB M = sbL r := by
    unfold ldB
    rw [hd2]
    unfold sfL sbL
    split <;> simp [blksF]
  have hsn : (sbL r).flatMap M = r.sn := by
    rw [fm_range, flatMap_same (g := fun k => (r.sn.drop (8 * k)).take 8) _ (fun k hk => ?_), chunks]
    · by_cases h0 : r.si = 0
      · have := hi.fm.2 h0
        rw [this]; simp
      · exact List.take_of_length_le ((sbL_some hl).2.2 h0)
    · have hk := List.mem_range.1 hk
      have hm : ((sbL r).getD k 0, (r.sn.drop (8 * k)).take 8) ∈ snP r := by
        unfold snP
        exact List.mem_map.2 ⟨k, List.mem_range.2 hk, rfl⟩
      exact ha _ (mem_sn hm)
  have hlm : lmS M = r.sn := by
    unfold lmS
    rw [hd2]
    unfold sfL
    by_cases h0 : r.si = 0
    · rw [if_pos h0]
      exact (hi.fm.2 h0).symm
    · rw [if_neg h0]
      show (tbL [] (nbF r.sn.length)).flatMap M = r.sn
      have e : sbL r = tbL [] (nbF r.sn.length) := by unfold sbL; rw [if_neg h0]
      rw [← e]
      exact hsn
  -- the entries
  have hat : ∀ i : Nat, i < r.lg.length → entF (r.lg.getD i oj0) = 0 ∧ (r.lg.getD i oj0).1 = r.si + 1 + (i : Int) ∧ M (sfV (r.lg.getD i oj0).1) = pkE (r.lg.getD i oj0) := fun i hi' => by
    have he := (logF_iff.1 hi.lo).2.1 i hi'
    have hne : r.lg ≠ [] := by intro e; rw [e] at hi'; simp at hi'
    have h1 := en_at hi.lo i 0 (by omega)
    have h0 := (hi.lk hne).1
    rw [Nat.zero_add] at h1
    refine ⟨he, by omega, ?_⟩
    have hm : r.lg.getD i oj0 ∈ r.lg := by
      rw [show r.lg.getD i oj0 = r.lg[i] by simp [List.getD, hi']]
      exact List.getElem_mem hi'
    have := ha _ (mem_en hm)
    unfold peR at this
    rw [if_pos he] at this
    exact this
  have hld : ∀ i : Nat, i < r.lg.length → ldW M i = pkE (r.lg.getD i oj0) ∧ lmW M i = pkE (r.lg.getD i oj0) := fun i hi' => by
    obtain ⟨he, hx, hM⟩ := hat i hi'
    have hz := (entF_zero he).1.1
    rw [hx] at hM hz
    have hM' := hM
    unfold sfV at hM'
    rw [if_pos hz] at hM'
    unfold ldW lmW
    rw [n2]
    exact ⟨hM, hM'⟩
  have hK : ldK M = r.lg.length := by
    unfold ldK
    rw [n4]
    split <;> omega
  have hlg : (List.range r.lg.length).map (fun i => r.lg.getD i oj0) = r.lg := by
    refine List.ext_getElem (by simp) fun i h1 h2 => ?_
    simp [List.getD, h2]
  refine ⟨⟨by rw [h2]; rfl, hd1, by omega, fun i hi' => ?_⟩, ?_, ?_⟩
  · rw [n4] at hi'
    have hi' : i < r.lg.length := by omega
    rw [(hld i hi').2]
    exact (pk_back (hat i hi').1).1
  · have e : ((List.range (ldN M 4).toNat).map fun i => enO (lmW M i)) = r.lg := by
      rw [n4, show ((r.lg.length : Int)).toNat = r.lg.length by omega]
      conv => rhs; rw [← hlg]
      refine List.map_congr_left fun i hi' => ?_
      have hi' := List.mem_range.1 hi'
      rw [(hld i hi').2]
      have := en_back (pk_back (hat i hi').1).1
      have h9 := (pk_back (hat i hi').1).2.1
      rw [this.1] at h9
      simpa using h9
    unfold lmA
    rw [n0, n1, n2, n3, hlm, e]
  · have e : ldE M (ldK M) = r.lg := by
      rw [hK]
      unfold ldE
      conv => rhs; rw [← hlg]
      rw [← flatMap_one]
      refine flatMap_same _ fun i hi' => ?_
      have hi' := List.mem_range.1 hi'
      rw [(hld i hi').1]
      exact (pk_back (hat i hi').1).2.1
    unfold ldA
    rw [n0, n1, n2, n3, hbl, hsn, e]
def ldO (M : Int → List Int) : Bool := decide (rfF (ldA M) = 0 ∧ hlP M (ldA M))
theorem ldO_iff {M : Int → List Int} : ldO M = true ↔ rfF (ldA M) = 0 ∧ hlP M (ldA M) := by unfold ldO; simp
theorem ldO_no {M : Int → List Int} (h : ¬ (rfF (ldA M) = 0 ∧ hlP M (ldA M))) : ldO M = false := by unfold ldO; simp [h]
theorem ld_same {M : Int → List Int} : (LmD M ∧ rfF (lmA M) = 0 ∧ hlP M (lmA M)) ↔ ldO M = true := by
  rw [ldO_iff]
  constructor
  · rintro ⟨_, h1, h2⟩
    have := (ld_back h1 h2).2.2
    rw [this]
    exact ⟨h1, h2⟩
  · rintro ⟨h1, h2⟩
    obtain ⟨a, b, _⟩ := ld_back h1 h2
    rw [b]
    exact ⟨a, h1, h2⟩
theorem ld_eq {M : Int → List Int} (h : ldO M = true) : lmA M = ldA M := by
  obtain ⟨h1, h2⟩ := ldO_iff.1 h
  exact (ld_back h1 h2).2.1
def ldC (vs : List (Int × List Int)) : Int := if vF vs = 0 then (if vs = [] then 0 else if ldO (lkP vs) = true then 0 else 5) else vF vs
def ldR (vs : List (Int × List Int)) : Rf := if vF vs = 0 ∧ vs ≠ [] ∧ ldO (lkP vs) = true then ldA (lkP vs) else rf0
theorem ld_bad {vs : List (Int × List Int)} (h : vF vs ≠ 0) : ldC vs = vF vs ∧ ldR vs = rf0 := by unfold ldC ldR; rw [if_neg h, if_neg (fun k => h k.1)]; exact ⟨rfl, rfl⟩
theorem ld_none {vs : List (Int × List Int)} (h : vF vs = 0) (h1 : vs = []) : ldC vs = 0 ∧ ldR vs = rf0 := by unfold ldC ldR; rw [if_pos h, if_pos h1, if_neg (fun k => k.2.1 h1)]; exact ⟨rfl, rfl⟩
theorem ld_text {vs : List (Int × List Int)} (h : vF vs = 0) (h1 : vs ≠ []) (h2 : ldO (lkP vs) = false) : ldC vs = 5 ∧ ldR vs = rf0 := by unfold ldC ldR; rw [if_pos h, if_neg h1, h2, if_neg (by decide), if_neg (fun k => by simp at k)]; exact ⟨rfl, rfl⟩
theorem ld_ok {vs : List (Int × List Int)} (h : vF vs = 0) (h1 : vs ≠ []) (h2 : ldO (lkP vs) = true) : ldC vs = 0 ∧ ldR vs = ldA (lkP vs) := by unfold ldC ldR; rw [if_pos h, if_neg h1, if_pos h2, if_pos ⟨h, h1, h2⟩]; exact ⟨rfl, rfl⟩
end Go.Proofs.YtlmaopljihbdkaaGreat
namespace Go.Proofs.YtlmaopljihbdkaaGreat
open Go.RowKit Go.Maps
structure StI (M : Int → List Int) (n0 : Nat) (w wr : World) (y z : Value) : Prop where
  below : Below n0 w wr
  r : Var6 wr n0 (.int .i64 0) (.int .i64 0) (.int .i64 0) (.int .i64 0) (.slice none 0 0) (.slice none 0 0)
  rf : ∀ o, wr.frozen? ⟨n0, o, none⟩ = false
  c4 : wr.cell? ⟨n0 + 1, 4, none⟩ = some (.int .i64 (ldN M 4))
  v : Var6 wr (n0 + 2) (.int .i64 (ldN M 0)) (.int .i64 (ldN M 1)) (.int .i64 (ldN M 2)) (.int .i64 (ldN M 3)) y z
  fr : ∀ o, wr.frozen? ⟨n0 + 2, o, none⟩ = false
theorem StI.lt {M : Int → List Int} {n0 : Nat} {w wr : World} {y z : Value} (h : StI M n0 w wr y z) : n0 + 2 < wr.heap.size := h.v.lt
theorem Var6.ku {D : Nat → Prop} {w w' : World} {b : Nat} {x0 x1 x2 x3 x4 x5 : Value} (h : Var6 w b x0 x1 x2 x3 x4 x5) (hk : Ku D w w') (hd : ¬ D b) : Var6 w' b x0 x1 x2 x3 x4 x5 :=
  ⟨hk.cell h.1 hd, hk.cell h.2.1 hd, hk.cell h.2.2.1 hd, hk.cell h.2.2.2.1 hd, hk.cell h.2.2.2.2.1 hd, hk.cell h.2.2.2.2.2 hd⟩
theorem StI.ku {M : Int → List Int} {n0 : Nat} {w wr w' : World} {y z : Value} {D : Nat → Prop} (h : StI M n0 w wr y z) (hk : Ku D wr w') (hD : ∀ b, D b → n0 + 3 ≤ b) : StI M n0 w w' y z := by
  have hl := h.lt
  have d0 : ¬ D n0 := fun e => by have := hD _ e; omega
  have d1 : ¬ D (n0 + 1) := fun e => by have := hD _ e; omega
  have d2 : ¬ D (n0 + 2) := fun e => by have := hD _ e; omega
  exact ⟨h.below.trans (hk.below (by omega) (fun b hb => by have := hD b hb; omega)), h.r.ku hk d0, fun o => (hk.frozen (by omega) d0).trans (h.rf o), hk.cell h.c4 d1, h.v.ku hk d2, fun o => (hk.frozen (by omega) d2).trans (h.fr o)⟩
theorem StI.later {M : Int → List Int} {n0 : Nat} {w wr w' : World} {y z : Value} (h : StI M n0 w wr y z) (hb : Below wr.heap.size wr w') : StI M n0 w w' y z := h.ku (Ku.of_below (D := fun _ => False) hb) fun _ e => e.elim
theorem set_ku {w : World} {b o : Nat} {x : Value} : Ku (fun k => k = b) w (w.setCell ⟨b, o, none⟩ x) := Ku.of_wr ((Wr.refl (fun k => k = b) _).setCell (p := ⟨b, o, none⟩) rfl _)
theorem StI.set4 {M : Int → List Int} {n0 : Nat} {w wr : World} {y z : Value} (h : StI M n0 w wr y z) (y' : Value) : StI M n0 w (wr.setCell ⟨n0 + 2, 4, none⟩ y') y' z := by
  have hk : Ku (fun k => k = n0 + 2) wr (wr.setCell ⟨n0 + 2, 4, none⟩ y') := set_ku
  have hl := h.lt
  obtain ⟨v0, v1, v2, v3, v4, v5⟩ := h.v
  refine ⟨h.below.trans (hk.below (by omega) (fun b hb => by omega)), h.r.ku hk (by omega), fun o => (hk.frozen (by omega) (by omega)).trans (h.rf o), hk.cell h.c4 (by omega), ⟨?_, ?_, ?_, ?_, ?_, ?_⟩, fun o => ?_⟩
  · exact (World.cell?_setCell_other _ _ _ _ (by simp)).trans v0
  · exact (World.cell?_setCell_other _ _ _ _ (by simp)).trans v1
  · exact (World.cell?_setCell_other _ _ _ _ (by simp)).trans v2
  · exact (World.cell?_setCell_other _ _ _ _ (by simp)).trans v3
  · exact World.cell?_setCell_same _ _ _ v4
  · exact (World.cell?_setCell_other _ _ _ _ (by simp)).trans v5
  · rw [World.frozen?_setCell]; exact h.fr o
theorem StI.set5 {M : Int → List Int} {n0 : Nat} {w wr : World} {y z : Value} (h : StI M n0 w wr y z) (z' : Value) : StI M n0 w (wr.setCell ⟨n0 + 2, 5, none⟩ z') y z' := by
  have hk : Ku (fun k => k = n0 + 2) wr (wr.setCell ⟨n0 + 2, 5, none⟩ z') := set_ku
  have hl := h.lt
  obtain ⟨v0, v1, v2, v3, v4, v5⟩ := h.v
  refine ⟨h.below.trans (hk.below (by omega) (fun b hb => by omega)), h.r.ku hk (by omega), fun o => (hk.frozen (by omega) (by omega)).trans (h.rf o), hk.cell h.c4 (by omega), ⟨?_, ?_, ?_, ?_, ?_, ?_⟩, fun o => ?_⟩
  · exact (World.cell?_setCell_other _ _ _ _ (by simp)).trans v0
  · exact (World.cell?_setCell_other _ _ _ _ (by simp)).trans v1
  · exact (World.cell?_setCell_other _ _ _ _ (by simp)).trans v2
  · exact (World.cell?_setCell_other _ _ _ _ (by simp)).trans v3
  · exact (World.cell?_setCell_other _ _ _ _ (by simp)).trans v4
  · exact World.cell?_setCell_same _ _ _ v5
  · rw [World.frozen?_setCell]; exact h.fr o
theorem copy_runA {w : World} {g dLen dCap sLen sCap : Nat} {ao : Option Addr} {cur X : List Value} (hg : w.heap[g]? = some (.cells cur.toArray 2 (0, 0))) (hn : X.length = Nat.min sLen dLen)
    (hsrc : 0 < X.length → ∃ ad, ao = some ad ∧ ∀ j v, X[j]? = some v → w.cell? (ad.add j) = some v) (hfit : X.length ≤ cur.length) (h1 : ∀ v ∈ X, v.oneCell' = true) :
    ∃ w', (Builtin.copy_ #[22, 22] 3 #[.slice (some ⟨g, 0, none⟩) dLen dCap, .slice ao sLen sCap]).run Tryz.prog w = .ok (goInt X.length) w' ∧
      w'.heap[g]? = some (.cells (splice cur 0 X).toArray 2 (0, 0)) ∧ Below g w w' ∧ w'.heap.size = w.heap.size := by
  by_cases h0 : X.length = 0
  · obtain rfl : X = [] := List.eq_nil_of_length_eq_zero h0
    refine ⟨w, run_copy_none (P := Tryz.prog) w 22 22 3 2 _ ao dLen dCap sLen sCap Tryz.underlying22 (by kernel_rfl) (by simpa using hn.symm), by simpa [splice] using hg, Below.refl _ _, rfl⟩
  · obtain ⟨ad, rfl, hs⟩ := hsrc (by omega)
    exact ⟨_, run_copy_row (P := Tryz.prog) w 22 22 3 2 g 0 dLen dCap ad sLen sCap cur.toArray 2 X Tryz.underlying22 (by kernel_rfl) hg hn hs (by simpa using hfit) h1,
      by simpa [splice] using setRow_heap w g _ _ 2 _ hg, below_setRow (Below.refl _ _) (Nat.le_refl _) _, by simp [World.setRow]⟩
theorem ldN_read (M : Int → List Int) : readL (M 2) 0 5 = [ldN M 0, ldN M 1, ldN M 2, ldN M 3, ldN M 4] := by
  unfold readL ldN
  simp [List.range_succ]
theorem words_at {xs : List Int} (h : wordsF xs = 0) (k : Nat) : 0 ≤ xs.getD k 0 ∧ xs.getD k 0 ≤ 65535 := by
  have h2 := (wordsF_in h).2
  by_cases hk : k < xs.length
  · have := h2 xs[k] (List.getElem_mem hk)
    simpa [List.getD, hk] using this
  · simp [List.getD, List.getElem?_eq_none (show xs.length ≤ k by omega)]
theorem ld_blocks {ws : List Int} (h : wordsF ws = 0) : (blksF (udR ws)).length ≤ 64 ∧ ∀ x, x ∈ blksF (udR ws) → 0 ≤ x ∧ x < 40 := by
  by_cases hne : ws = []
  · subst hne
    rw [udC_nil.2]
    exact ⟨by simp [blksF], by simp [blksF]⟩
  · by_cases hd : dirB ws = true
    · have hD := dirB_iff.1 hd
      rw [(udC_yes h hne hd).2]
      have h1 := (wordsF_in h).1
      have h2 : (pkF (prI ws.tail)).length ≤ 64 := by rw [hD.2]; exact h1
      unfold pkF at h2
      rw [List.length_cons, bdF_len] at h2
      refine ⟨by omega, fun x hx => ?_⟩
      obtain ⟨p, hp, hxp⟩ := blksF_mem.1 hx
      have := List.all_eq_true.1 (oneF_iff.1 ((filF_iff.1 hD.1).one p hp)).2.2 x hxp
      unfold inB at this
      simp at this
      omega
    · rw [(udC_no h hne (by simpa using hd)).2]
      exact ⟨by simp [blksF], by simp [blksF]⟩
def ldF (M : Int → List Int) (fs : List Oj) (k j : Nat) : List Int := (blksF (fs.take k) ++ (fs.getD k oj0).2.2.take j).flatMap M
theorem ldF_len {M : Int → List Int} : ∀ (L : List Int), (∀ x, x ∈ L → (M x).length ≤ 64) → (L.flatMap M).length ≤ 64 * L.length := by
  intro L
  induction L with
  | nil => intro _; simp
  | cons a L ih =>
    intro h
    have h1 := h a (by simp)
    have h2 := ih fun x hx => h x (by simp [hx])
    simp only [List.flatMap_cons, List.length_append, List.length_cons]
    omega
theorem blks_split {fs : List Oj} {k : Nat} (h : k < fs.length) : blksF fs = blksF (fs.take k) ++ ((fs.getD k oj0).2.2 ++ blksF (fs.drop (k + 1))) := by
  have e : fs = fs.take k ++ (fs[k] :: fs.drop (k + 1)) := by rw [List.getElem_cons_drop, List.take_append_drop]
  conv => lhs; rw [e]
  rw [blksF_append, blksF]
  simp [List.getD, h]
theorem getD_atL {xs : List Int} {j : Nat} (h : j < xs.length) : xs.getD j 0 = xs[j] := by simp [List.getD, h]
theorem ldF_zero (M : Int → List Int) (fs : List Oj) : ldF M fs 0 0 = [] := by simp [ldF, blksF]
theorem ldF_next {M : Int → List Int} {fs : List Oj} {k : Nat} (h : k < fs.length) : ldF M fs k (fs.getD k oj0).2.2.length = ldF M fs (k + 1) 0 := by
  unfold ldF
  rw [List.take_length, List.take_zero, List.append_nil, List.take_succ_eq_append_getElem h, blksF_snoc]
  simp [List.getD, h]
theorem ldF_step {M : Int → List Int} {fs : List Oj} {k j : Nat} (hj : j < (fs.getD k oj0).2.2.length) : ldF M fs k (j + 1) = ldF M fs k j ++ M ((fs.getD k oj0).2.2.getD j 0) := by
  unfold ldF
  rw [List.take_succ_eq_append_getElem hj, ← List.append_assoc, List.flatMap_append, getD_atL hj]
  simp
theorem ldF_all {M : Int → List Int} {fs : List Oj} : ldF M fs fs.length 0 = (blksF fs).flatMap M := by
  unfold ldF
  rw [List.take_length, List.take_zero, List.append_nil]
theorem ldF_most {M : Int → List Int} {fs : List Oj} (hl : (blksF fs).length ≤ 64) (hm : ∀ x, x ∈ blksF fs → (M x).length ≤ 64) (k j : Nat) (hk : k < fs.length) : (ldF M fs k j).length ≤ 4096 := by
  have e := blks_split hk
  have h1 : ∀ x, x ∈ blksF (fs.take k) ++ (fs.getD k oj0).2.2.take j → x ∈ blksF fs := fun x hx => by
    rw [e]
    rcases List.mem_append.1 hx with hx | hx
    · exact List.mem_append_left _ hx
    · exact List.mem_append_right _ (List.mem_append_left _ (List.mem_of_mem_take hx))
  have h2 := ldF_len (M := M) _ fun x hx => hm x (h1 x hx)
  have h3 : (blksF (fs.take k) ++ (fs.getD k oj0).2.2.take j).length ≤ (blksF fs).length := by
    conv => rhs; rw [e]
    simp only [List.length_append, List.length_take]
    omega
  unfold ldF
  omega
theorem blks_at {fs : List Oj} {k j : Nat} (hk : k < fs.length) (hj : j < (fs.getD k oj0).2.2.length) : (fs.getD k oj0).2.2.getD j 0 ∈ blksF fs := by
  rw [blks_split hk]
  refine List.mem_append_right _ (List.mem_append_left _ ?_)
  rw [getD_atL hj]
  exact List.getElem_mem hj
theorem sfV_room (i : Int) : 0 ≤ sfV i ∧ sfV i < 40 := by
  unfold sfV
  split
  · omega
  · omega
theorem ldE_succ (M : Int → List Int) (n : Nat) : ldE M (n + 1) = ldE M n ++ ueR (ldW M n) := by
  unfold ldE
  rw [List.range_succ, List.flatMap_append]
  simp
theorem ldE_more (M : Int → List Int) (i n : Nat) (h : i ≤ n) : ∃ L, ldE M n = ldE M i ++ L := by
  induction n with
  | zero => exact ⟨[], by rw [show i = 0 by omega]; simp⟩
  | succ n ih =>
    rcases Nat.lt_or_ge i (n + 1) with h1 | h1
    · obtain ⟨L, e⟩ := ih (by omega)
      exact ⟨L ++ ueR (ldW M n), by rw [ldE_succ, e, List.append_assoc]⟩
    · exact ⟨[], by rw [show i = n + 1 by omega]; simp⟩
theorem ue_two (xs : List Int) : ueR xs = [] ∨ ueR xs = [enO xs] := by unfold ueR; split <;> simp
theorem ldE_len (M : Int → List Int) : ∀ n, (ldE M n).length ≤ n := by
  intro n
  induction n with
  | zero => simp [ldE]
  | succ n ih =>
    rw [ldE_succ, List.length_append]
    rcases ue_two (ldW M n) with h | h <;> rw [h] <;> simp <;> omega
theorem RdJ.fileS {S : Nat → Prop} {w : World} {ao : Option Addr} {n c : Nat} {fs : List Oj} (h : RdJ S w (.slice ao n c) fs) {k : Nat} (hk : k < fs.length) : ∃ b off, ao = some ⟨b, off, none⟩ ∧ S b ∧ RdFp S w b (off + k * 3) (fs.getD k oj0) := by
  obtain ⟨ao', c', e, hm, h⟩ := h
  injection e with e1 e2 e3
  obtain ⟨b, off, V, e4, hb, hc⟩ := h (by rintro rfl; exact absurd hk (Nat.not_lt_zero _))
  obtain ⟨q0, q1, q2, q3⟩ := hc k hk
  exact ⟨b, off, e1.trans e4, hb, V k, q0, q1, q2, q3⟩
theorem BuiltEn.ku {P D : Nat → Prop} {w w' : World} {v : Value} {k : Nat} {ts : List Oj} (h : BuiltEn P w v k ts) (hk : Ku D w w') (hd : ∀ b, P b → ¬ D b) : BuiltEn P w' v k ts := by
  obtain ⟨V, Bk, h1, h2, h3⟩ := h
  exact ⟨V, Bk, ownsRow_ku h1 hk (fun r hr => hd _ (h2 r hr)), h2, h3.ku hk (fun i hi hn => hd _ (h3.own i hi hn).1)⟩
theorem OwJ.one {lo : Nat} {w : World} {a : Option Addr} {c : Nat} {e : Oj} (h : OwJ (fun b => lo ≤ b ∧ b < w.heap.size) w (.slice a 1 c) [e]) :
    ∃ b off av cv, a = some ⟨b, off, none⟩ ∧ (∀ j u, ([.int .i64 e.1, .int .i64 e.2.1, .slice av e.2.2.length cv] : List Value)[j]? = some u → w.cell? ((⟨b, off, none⟩ : Addr).add j) = some u) ∧ OwI lo w (.slice av e.2.2.length cv) e.2.2 := by
  obtain ⟨ao, c', b, off, V, B, h1, h2, h3, h4⟩ := h
  obtain ⟨e1, _, _⟩ := h3 (by simp)
  injection h1 with g1 g2 g3
  obtain ⟨k0, k1, k2, k3, k4⟩ := h4 0 (by simp)
  simp only [List.getD, List.getElem?_cons_zero, Option.getD_some] at k0 k1 k2 k3 k4
  obtain ⟨av, cv, hv⟩ := k3.shape
  rw [hv] at k2 k3
  refine ⟨b, off, av, cv, g1.trans e1, fun j u hu => ?_, B 0, k3, fun hn => ⟨(k4 hn).1.1, (k4 hn).1.2, (k4 hn).2.2.1⟩⟩
  have hj : j < 3 := by have := (List.getElem?_eq_some_iff.1 hu).1; simpa using this
  rw [Addr.add_lit]
  rcases (by omega : j = 0 ∨ j = 1 ∨ j = 2) with rfl | rfl | rfl
  · simp at hu; subst hu; simpa using k0
  · simp at hu; subst hu; simpa using k1
  · simp at hu; subst hu; simpa using k2
theorem ldE_at {M : Int → List Int} {i K : Nat} {e : Oj} (h : i < K) (he : ueR (ldW M i) = [e]) : (ldE M K).getD (ldE M i).length oj0 = e := by
  obtain ⟨L, hL⟩ := ldE_more M (i + 1) K h
  rw [hL, ldE_succ, he]
  simp [List.getD]
theorem ret_raft6 {w w3 : World} {r lo : Nat} {x0 x1 x2 x3 y z : Value} {xs : List Int} {ps : List Oj} (hb : Below w.heap.size w w3) (hr : w.heap.size ≤ r) (ho : IvR lo w3.heap.size w3 y z xs ps) (hlo : r < lo) :
    Below w.heap.size w ((((((w3.setCell ⟨r, 0, none⟩ x0).setCell ⟨r, 1, none⟩ x1).setCell ⟨r, 2, none⟩ x2).setCell ⟨r, 3, none⟩ x3).setCell ⟨r, 4, none⟩ y).setCell ⟨r, 5, none⟩ z) ∧ IvR w.heap.size ((((((w3.setCell ⟨r, 0, none⟩ x0).setCell ⟨r, 1, none⟩ x1).setCell ⟨r, 2, none⟩ x2).setCell ⟨r, 3, none⟩ x3).setCell ⟨r, 4, none⟩ y).setCell ⟨r, 5, none⟩ z).heap.size ((((((w3.setCell ⟨r, 0, none⟩ x0).setCell ⟨r, 1, none⟩ x1).setCell ⟨r, 2, none⟩ x2).setCell ⟨r, 3, none⟩ x3).setCell ⟨r, 4, none⟩ y).setCell ⟨r, 5, none⟩ z) y z xs ps := by
  have hw : Wr (fun q => q = r) w3 ((((((w3.setCell ⟨r, 0, none⟩ x0).setCell ⟨r, 1, none⟩ x1).setCell ⟨r, 2, none⟩ x2).setCell ⟨r, 3, none⟩ x3).setCell ⟨r, 4, none⟩ y).setCell ⟨r, 5, none⟩ z) := (((((((Wr.refl (fun q => q = r) _).setCell (p := ⟨r, 0, none⟩) rfl _).setCell (p := ⟨r, 1, none⟩) rfl _).setCell (p := ⟨r, 2, none⟩) rfl _).setCell (p := ⟨r, 3, none⟩) rfl _).setCell (p := ⟨r, 4, none⟩) rfl _).setCell (p := ⟨r, 5, none⟩) rfl _)
  exact ⟨((((((hb.setCell (p := ⟨r, 0, none⟩) hr _).setCell (p := ⟨r, 1, none⟩) hr _).setCell (p := ⟨r, 2, none⟩) hr _).setCell (p := ⟨r, 3, none⟩) hr _).setCell (p := ⟨r, 4, none⟩) hr _).setCell (p := ⟨r, 5, none⟩) hr _), IvR.up (ho.wr hw (fun b h1 _ e => by omega)) (by omega) hw.size⟩
theorem IvR_two {A : Nat} {w8 w : World} {D : Nat → Prop} {y z : Value} {j : Nat} {xs : List Int} {ps : List Oj} (hr : w8.ownsRow A 2 1 y j (xs.map (Value.int .i64))) (hm : j ≤ 1048576) (hk : Ku D w8 w) (hD : ∀ b, A ≤ b → b < w8.heap.size → ¬ D b) (hA : A ≤ w8.heap.size) (hz : OwJ (fun b => w8.heap.size ≤ b ∧ b < w.heap.size) w z ps) : IvR A w.heap.size w y z xs ps := by
  have hn : xs.length = j := by have := hr.1; simpa using this
  obtain ⟨g, r1, o1⟩ := ow_of_owns hn hr (by omega)
  have hsz := hk.size
  refine ⟨g, _, r1.ku hk (fun hne b hb => by
    have hb' : b = g := hb
    subst hb'
    exact hD _ (o1 hne).1 (o1 hne).2.1), fun hne => ?_, Nat.le_refl _, fun b hb => ⟨Nat.le_trans hA hb.1, hb.2⟩, hz⟩
  obtain ⟨k1, k2, k3⟩ := o1 hne
  exact ⟨k1, by omega, fun h => by have := h.1; omega, fun o => (hk.frozen k2 (hD _ k1 k2)).trans (k3 o)⟩
theorem step_append_zeroE (w : World) {ops : Array Oper} {o : Oper} {a : Act} {K : Act → World → Prop} {Q : Exit → Act → World → Prop} {E : Prop} (hgd : o.guard = none) (s x : Operand) (t : TypeId)
    (ho : o.op = .call { callee := .builtin .append, args := #[s, x], argTypes := #[t, t] })
    (base : Nat) (e : TypeId) (i : TypeInfo) (size : Nat) (ht : Tryz.prog.underlying t = some (.slice e)) (hi : Tryz.prog.info? e = some i)
    (v : Value) (n : Nat) (xs : List Value) (hs : a.eval s = v) (hown : w.ownsRow base e size v n xs) (ao : Option Addr) (c : Nat) (hx : a.eval x = .slice ao 0 c)
    (h : K (a.put o.dst v) w) : if Region.wanted o (yielded ops a.tmps) = true then Oper.wp Tryz.prog o a w K Q else E := by
  have hw : Region.wanted o (yielded ops a.tmps) = true := by simp [Region.wanted, hgd]
  rw [if_pos hw]
  have hv : ∃ ad k, v = .slice ad n k ∧ n ≤ k := by
    rcases hown.2 with ⟨rfl, rfl⟩ | ⟨g, cap, cur, rfl, _, _, hnc, _⟩
    · exact ⟨_, _, rfl, Nat.le_refl _⟩
    · exact ⟨_, _, rfl, hnc⟩
  obtain ⟨ad, k, rfl, hk⟩ := hv
  have hrun := run_append_zero (P := Tryz.prog) w t o.type e i ht hi ad n k hk ao c
  unfold Oper.wp execOp
  simp only [ho, resolve, invoke, builtin, Sem.run_bind, Sem.run_pure, Result.andThen_ok, List.map_toArray, List.map_cons, List.map_nil, hs, hx, hrun]
  exact h
end Go.Proofs.YtlmaopljihbdkaaGreat
