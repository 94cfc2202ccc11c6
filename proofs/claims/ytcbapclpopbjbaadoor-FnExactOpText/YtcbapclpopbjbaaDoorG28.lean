/- TxR in one text: what each says stands at its head below. -/
import Derived.Test.YtcbapclpopbjbaaDoorG18
import Derived.Test.YtcbapclpopbjbaaDoorG24
import Derived.Test.YtcbapclpopbjbaaDoorG21
import Derived.Test.YtcbapclpopbjbaaDoorG25
import Derived.Test.YtcbapclpopbjbaaDoorG27
import Derived.Deep.CutRange
/- The text of a store: the mathematics, and the model ('spec.l16Raft', 'spec.RaftText'). Made by program (gentxr.py). -/
namespace Go.Proofs.YtcbapclpopbjbaaDoor
open Go.RowKit

abbrev termW : List UInt8 := [116, 101, 114, 109]
abbrev snapW : List UInt8 := [115, 110, 97, 112]
abbrev entryW : List UInt8 := [101, 110, 116, 114, 121]
/-- The line of an entry, of a snapshot; the text of a store. -/
def entT (p : Oj) : List UInt8 := lineT entryW [p.1, p.2.1] ++ [32] ++ listT p.2.2
def snapT (r : Rf) : List UInt8 := lineT snapW [r.si, r.st] ++ [32] ++ listT r.sn
def headT (r : Rf) : List UInt8 := lineT termW [r.tm, r.vt] ++ [10] ++ snapT r ++ [10]
def entsT (fs : List Oj) : List UInt8 := fs.flatMap fun p => entT p ++ [10]
def raftT (r : Rf) : List UInt8 := headT r ++ entsT r.lg
theorem entsT_snoc (fs : List Oj) (k : Nat) (h : k < fs.length) : entsT (fs.take (k + 1)) = entsT (fs.take k) ++ (entT (fs.getD k oj0) ++ [10]) := by
  have e : fs.getD k oj0 = fs[k] := by simp [List.getD, h]
  unfold entsT
  rw [List.take_succ_eq_append_getElem h, List.flatMap_append, e]
  simp
theorem nums_of {xs : List Int} {n : Int} (hn : n ≤ 9223372036854775807) (h : ∀ i, i < xs.length → 0 ≤ xs.getD i 0 ∧ xs.getD i 0 ≤ n) : NumsOk xs := fun x hx => by
  obtain ⟨i, hi, rfl⟩ := List.mem_iff_getElem.1 hx
  have := h i hi
  simp only [List.getD, List.getElem?_eq_getElem hi, Option.getD_some] at this
  omega
theorem nums2 {a b : Int} (h1 : 0 ≤ a) (h2 : a ≤ 9223372036854775807) (h3 : 0 ≤ b) (h4 : b ≤ 9223372036854775807) : NumsOk [a, b] := fun x hx => by
  rcases List.mem_cons.1 hx with rfl | hx
  · exact ⟨h1, h2⟩
  · rcases List.mem_cons.1 hx with rfl | hx
    · exact ⟨h3, h4⟩
    · cases hx
/-- What a store without a fault gives a text. -/
structure TxOk (r : Rf) : Prop where
  hd : NumsOk [r.tm, r.vt]
  sp : NumsOk [r.si, r.st]
  sn : NumsOk r.sn ∧ r.sn.length ≤ 64
  ll : r.lg.length ≤ 14
  en : ∀ i, i < r.lg.length → NumsOk [(r.lg.getD i oj0).1, (r.lg.getD i oj0).2.1] ∧ NumsOk (r.lg.getD i oj0).2.2 ∧ (r.lg.getD i oj0).2.2.length ≤ 6
theorem txOk {r : Rf} (h : rfF r = 0) : TxOk r := by
  have hr := rfF_iff.1 h
  have hrg : ((0 ≤ r.tm ∧ r.tm ≤ 999) ∧ (0 ≤ r.vt ∧ r.vt ≤ 9)) ∧ (0 ≤ r.si ∧ r.si ≤ 9999) ∧ 0 ≤ r.st ∧ r.st ≤ r.tm := hr.rg
  have hlg := logF_iff.1 hr.lo
  have hda := hr.da
  have hl := daF_len hda
  refine ⟨nums2 (by omega) (by omega) (by omega) (by omega), nums2 (by omega) (by omega) (by omega) (by omega), ⟨?_, by omega⟩, hlg.1, fun i hi => ?_⟩
  · have hw : wordsF r.sn = 0 := by unfold daF at hda; rw [if_neg (by omega)] at hda; exact hda
    exact nums_of (n := 65535) (by omega) (wordsF_zero hw).2
  · obtain ⟨⟨e1, e2⟩, e3, e4⟩ := entF_zero (hlg.2.1 i hi)
    exact ⟨nums2 (by omega) (by omega) (by omega) (by omega), nums_of (n := 65535) (by omega) (wordsF_zero e4).2, e3⟩
theorem entT_len {p : Oj} (h1 : NumsOk [p.1, p.2.1]) (h2 : NumsOk p.2.2) (h3 : p.2.2.length ≤ 64) : (entT p).length ≤ 2000 := by
  have k1 := lineT_len (word := entryW) h1
  have k2 := listT_len h2
  simp only [entT, List.length_append, List.length_cons, List.length_nil] at k1 ⊢
  omega
theorem headT_len {r : Rf} (h : TxOk r) : (headT r).length ≤ 2000 := by
  have k1 := lineT_len (word := termW) h.hd
  have k2 := lineT_len (word := snapW) h.sp
  have k3 := listT_len h.sn.1
  have := h.sn.2
  simp only [headT, snapT, List.length_append, List.length_cons, List.length_nil] at k1 k2 ⊢
  omega
theorem entsT_len {r : Rf} (h : TxOk r) : ∀ k, k ≤ r.lg.length → (entsT (r.lg.take k)).length ≤ 2001 * k
  | 0, _ => by simp [entsT]
  | k + 1, hk => by
    have ih := entsT_len h k (by omega)
    obtain ⟨e1, e2, e3⟩ := h.en k (by omega)
    have e4 := entT_len e1 e2 (by omega)
    rw [entsT_snoc _ _ (by omega), List.length_append, List.length_append]
    simp only [List.length_cons, List.length_nil]
    omega
theorem RdJ.atT {S : Nat → Prop} {w : World} {ao : Option Addr} {n c k : Nat} {fs : List Oj} (h : RdJ S w (.slice ao n c) fs) (hk : k < fs.length) :
    ∃ b off V, ao = some ⟨b, off, none⟩ ∧ w.cell? ⟨b, off + k * 3, none⟩ = some (.int .i64 (fs.getD k oj0).1) ∧ w.cell? ⟨b, off + k * 3 + 1, none⟩ = some (.int .i64 (fs.getD k oj0).2.1) ∧ w.cell? ⟨b, off + k * 3 + 2, none⟩ = some V ∧ RdI S w V (fs.getD k oj0).2.2 := by
  obtain ⟨ao', c', e1, _, e3⟩ := h
  injection e1 with e1 _ _
  subst e1
  obtain ⟨b, off, V, rfl, _, f3⟩ := e3 (by rintro rfl; exact absurd hk (Nat.not_lt_zero _))
  exact ⟨b, off, V k, rfl, (f3 k hk).1, (f3 k hk).2.1, (f3 k hk).2.2.1, (f3 k hk).2.2.2⟩
theorem rdI_new2 (V : World) (x y : Int) (t : TypeId) : RdI (fun _ => True) (V.alloc (.cells #[.int .i64 x, .int .i64 y] t)) (.slice (some ⟨V.heap.size, 0, none⟩) 2 2) [x, y] := by
  refine ⟨some ⟨V.heap.size, 0, none⟩, 0, rfl, by simp, fun _ => ⟨V.heap.size, 0, rfl, trivial, fun i hi => ?_⟩⟩
  rcases i with _ | _ | i
  · simp [go_sem]
  · simp [go_sem]
  · simp at hi; omega

set_option maxRecDepth 4000 in
set_option maxHeartbeats 4000000 in
/-- 'spec.l16Raft'. -/
theorem specRaftT {S T : Nat → Prop} {w : World} {bk : Nat} {y z : Value} (r : Rf) (hv : Var6 w bk (.int .i64 r.tm) (.int .i64 r.vt) (.int .i64 r.si) (.int .i64 r.st) y z) (hy : RdI S w y r.sn) (hz : RdJ T w z r.lg) (hok : TxOk r) :
    Calls Tryd.prog 40 #[.pointer (some ⟨bk, 0, none⟩)] w fun e w' => e = .returned (.string (str (raftT r))) ∧ Below w.heap.size w w' := by
  obtain ⟨ay, cy, rfl⟩ := hy.shape
  obtain ⟨az, cz, rfl, hzm⟩ := hz.shape
  have hhl := headT_len hok
  have hel := entsT_len hok
  have hll := hok.ll
  have HS := hide hok.sn.1
  have H1 := hide (fun (w' : World) (v : Value) (h : RdI (fun _ => True) w' v [r.tm, r.vt]) => specLine termW h (by simp) hok.hd (by simp))
  have H2 := hide (fun (w' : World) (v : Value) (h : RdI (fun _ => True) w' v [r.si, r.st]) => specLine snapW h (by simp) hok.sp (by simp))
  have H3 := hide (fun (w' : World) (hb : Below w.heap.size w w') => specList (hy.later hb) (by have := hok.sn.2; omega) hok.sn.1)
  have HE := hide (fun (w' : World) (v : Value) (k : Nat) (hk : k < r.lg.length) (h : RdI (fun _ => True) w' v [(r.lg.getD k oj0).1, (r.lg.getD k oj0).2.1]) => specLine entryW h (by simp) (hok.en k hk).1 (by simp))
  have HD := hide (fun (S' : Nat → Prop) (w' : World) (v : Value) (k : Nat) (hk : k < r.lg.length) (h : RdI S' w' v (r.lg.getD k oj0).2.2) => specList h (by have := (hok.en k hk).2.2; omega) (hok.en k hk).2.1)
  have hA8 : (lineT termW [r.tm, r.vt] ++ [10]) ++ lineT snapW [r.si, r.st] ++ [32] ++ listT r.sn ++ [10] = headT r := by simp [headT, snapT]
  obtain ⟨A1, hA1⟩ : ∃ A, lineT termW [r.tm, r.vt] = A := ⟨_, rfl⟩
  obtain ⟨A3, hA3⟩ : ∃ A, lineT snapW [r.si, r.st] = A := ⟨_, rfl⟩
  obtain ⟨A6, hA6⟩ : ∃ A, listT r.sn = A := ⟨_, rfl⟩
  rw [hA1, hA3, hA6] at hA8
  simp only [hA1] at H1
  simp only [hA3] at H2
  simp only [hA6] at H3
  rw [← hA8] at hhl
  simp only [List.length_append, List.length_cons, List.length_nil] at hhl
  have cat1 := catR A1 [10] _ rfl (by simp; omega)
  have cat2 := catR (A1 ++ [10]) A3 _ rfl (by simp; omega)
  have cat3 := catR (A1 ++ [10] ++ A3) [32] _ rfl (by simp; omega)
  have cat4 := catR (A1 ++ [10] ++ A3 ++ [32]) A6 _ rfl (by simp; omega)
  have cat5 := catR (A1 ++ [10] ++ A3 ++ [32] ++ A6) [10] _ rfl (by simp; omega)
  have HA8 := hide hA8
  obtain ⟨A2, hA2⟩ : ∃ A, A1 ++ [10] = A := ⟨_, rfl⟩
  rw [hA2] at cat1 cat2 cat3 cat4 cat5 HA8
  obtain ⟨A4, hA4⟩ : ∃ A, A2 ++ A3 = A := ⟨_, rfl⟩
  rw [hA4] at cat2 cat3 cat4 cat5 HA8
  obtain ⟨A5, hA5⟩ : ∃ A, A4 ++ [32] = A := ⟨_, rfl⟩
  rw [hA5] at cat3 cat4 cat5 HA8
  obtain ⟨A7, hA7⟩ : ∃ A, A5 ++ A6 = A := ⟨_, rfl⟩
  rw [hA7] at cat4 cat5 HA8
  obtain ⟨A8, hA8'⟩ : ∃ A, A7 ++ [10] = A := ⟨_, rfl⟩
  rw [hA8'] at cat5 HA8
  have HL := hide (show A8.length ≤ 2000 by rw [HA8.out]; exact headT_len hok)
  have HLe := hide hel
  have HZ := hide hz
  have HV := hide hv
  obtain ⟨n, hn⟩ : ∃ n, r.lg.length = n := ⟨_, rfl⟩
  have HN := hide hn
  rw [hn] at hll hzm HZ HV
  generalize r.sn.length = l at *
  generalize hbe : r.tm = a at *
  generalize hce : r.vt = b at *
  generalize hde : r.si = c at *
  generalize hee : r.st = d at *
  clear hv hy hz hok hhl hel hA8 hA1 hA3 hA6 hA2 hA4 hA5 hA7 hA8' hn hbe hce hde hee
  obtain ⟨v0, v1, v2, v3, v4, v5⟩ := HV.out
  go_enter Tryd.func40, Tryd.ntmps40
  go_upto_region 1 with fail
  go_cut [3] from 5 to 34 (fun t wx => t = .string (str A8) ∧ Hid (Below w.heap.size w wx))
  case first =>
    refine wp_region_held_drew (S := fun w' => Below w.heap.size w w') (by kernel_rfl) (below_drewN w 1) (fun hHeld => ?_)
    refine forgetH (fun wx => Below w.heap.size w wx) hHeld ?_
    clear hHeld
    rintro w0 hHeld
    refine wpAnyH_take (i := 0) (v := ?va1x0) rfl (by kernel_rfl) (by kernel_rfl) (by kernel_rfl) (fun _ _ _ h => h) (Or.inl ⟨by rfl, ?ha1x0⟩) hHeld ?ra1x0
    case ha1x0 => intro w9 hSw; (try dsimp only at hSw); have q0 := cell_later hSw v0; have q1 := cell_later hSw v1; have q2 := cell_later hSw v2; have q3 := cell_later hSw v3; have q4 := cell_later hSw v4; have q5 := cell_later hSw v5; first | (go_simp; done) | (go_simp; with_reducible rfl)
    try simp only [Act.put, List.setIfInBounds_toArray, List.set_cons_zero, List.set_cons_succ, List.getElem_toArray, List.getElem_cons_zero]
    refine wpAnyH_take (i := 1) (v := ?va2x1) rfl (by kernel_rfl) (by kernel_rfl) (by kernel_rfl) (fun _ _ _ h => h) (Or.inl ⟨by rfl, ?ha2x1⟩) hHeld ?ra2x1
    case ha2x1 => intro w9 hSw; (try dsimp only at hSw); have q0 := cell_later hSw v0; have q1 := cell_later hSw v1; have q2 := cell_later hSw v2; have q3 := cell_later hSw v3; have q4 := cell_later hSw v4; have q5 := cell_later hSw v5; first | (go_simp; done) | (go_simp; with_reducible rfl)
    try simp only [Act.put, List.setIfInBounds_toArray, List.set_cons_zero, List.set_cons_succ, List.getElem_toArray, List.getElem_cons_zero, List.getElem_cons_succ]
    refine wpAnyH_take (i := 2) (v := ?va3x2) rfl (by kernel_rfl) (by kernel_rfl) (by kernel_rfl) (fun _ _ _ h => h) (Or.inl ⟨by rfl, ?ha3x2⟩) hHeld ?ra3x2
    case ha3x2 => intro w9 hSw; (try dsimp only at hSw); have q0 := cell_later hSw v0; have q1 := cell_later hSw v1; have q2 := cell_later hSw v2; have q3 := cell_later hSw v3; have q4 := cell_later hSw v4; have q5 := cell_later hSw v5; first | (go_simp; done) | (go_simp; with_reducible rfl)
    try simp only [Act.put, List.setIfInBounds_toArray, List.set_cons_zero, List.set_cons_succ, List.getElem_toArray, List.getElem_cons_zero, List.getElem_cons_succ]
    refine wpAnyH_take (i := 3) (v := ?va4x3) rfl (by kernel_rfl) (by kernel_rfl) (by kernel_rfl) (fun _ _ _ h => h) (Or.inl ⟨by rfl, ?ha4x3⟩) hHeld ?ra4x3
    case ha4x3 => intro w9 hSw; (try dsimp only at hSw); have q0 := cell_later hSw v0; have q1 := cell_later hSw v1; have q2 := cell_later hSw v2; have q3 := cell_later hSw v3; have q4 := cell_later hSw v4; have q5 := cell_later hSw v5; first | (go_simp; done) | (go_simp; with_reducible rfl)
    try simp only [Act.put, List.setIfInBounds_toArray, List.set_cons_zero, List.set_cons_succ, List.getElem_toArray, List.getElem_cons_zero, List.getElem_cons_succ]
    refine wpAnyH_take (i := 4) (v := ?va5x4) rfl (by kernel_rfl) (by kernel_rfl) (by kernel_rfl) (fun _ _ _ h => h) (Or.inl ⟨by rfl, ?ha5x4⟩) hHeld ?ra5x4
    case ha5x4 => intro w9 hSw; (try dsimp only at hSw); have q0 := cell_later hSw v0; have q1 := cell_later hSw v1; have q2 := cell_later hSw v2; have q3 := cell_later hSw v3; have q4 := cell_later hSw v4; have q5 := cell_later hSw v5; first | (go_simp; done) | (go_simp; with_reducible rfl)
    try simp only [Act.put, List.setIfInBounds_toArray, List.set_cons_zero, List.set_cons_succ, List.getElem_toArray, List.getElem_cons_zero, List.getElem_cons_succ]
    refine wpAnyH_take (i := 5) (v := ?va6x5) rfl (by kernel_rfl) (by kernel_rfl) (by kernel_rfl) (fun _ _ _ h => h) (Or.inl ⟨by rfl, ?ha6x5⟩) hHeld ?ra6x5
    case ha6x5 => intro w9 hSw; (try dsimp only at hSw); have q0 := cell_later hSw v0; have q1 := cell_later hSw v1; have q2 := cell_later hSw v2; have q3 := cell_later hSw v3; have q4 := cell_later hSw v4; have q5 := cell_later hSw v5; first | (go_simp; done) | (go_simp; with_reducible rfl)
    try simp only [Act.put, List.setIfInBounds_toArray, List.set_cons_zero, List.set_cons_succ, List.getElem_toArray, List.getElem_cons_zero, List.getElem_cons_succ]
    refine wpAnyH_take (i := 6) (v := ?va7x6) rfl (by kernel_rfl) (by kernel_rfl) (by kernel_rfl) (fun _ _ _ h => h) (Or.inl ⟨by rfl, ?ha7x6⟩) hHeld ?ra7x6
    case ha7x6 => intro w9 hSw; (try dsimp only at hSw); have q0 := cell_later hSw v0; have q1 := cell_later hSw v1; have q2 := cell_later hSw v2; have q3 := cell_later hSw v3; have q4 := cell_later hSw v4; have q5 := cell_later hSw v5; first | (go_simp; done) | (go_simp; with_reducible rfl)
    try simp only [Act.put, List.setIfInBounds_toArray, List.set_cons_zero, List.set_cons_succ, List.getElem_toArray, List.getElem_cons_zero, List.getElem_cons_succ]
    refine wpAnyH_take (i := 7) (v := ?va8x7) rfl (by kernel_rfl) (by kernel_rfl) (by kernel_rfl) (fun _ _ _ h => h) (Or.inl ⟨by rfl, ?ha8x7⟩) hHeld ?ra8x7
    case ha8x7 => intro w9 hSw; (try dsimp only at hSw); have q0 := cell_later hSw v0; have q1 := cell_later hSw v1; have q2 := cell_later hSw v2; have q3 := cell_later hSw v3; have q4 := cell_later hSw v4; have q5 := cell_later hSw v5; first | (go_simp; done) | (go_simp; with_reducible rfl)
    try simp only [Act.put, List.setIfInBounds_toArray, List.set_cons_zero, List.set_cons_succ, List.getElem_toArray, List.getElem_cons_zero, List.getElem_cons_succ]
    refine wpAnyH_take (i := 11) (v := ?va9x11) rfl (by kernel_rfl) (by kernel_rfl) (by kernel_rfl) (fun _ _ _ h => h) (Or.inl ⟨by rfl, ?ha9x11⟩) hHeld ?ra9x11
    case ha9x11 => intro w9 hSw; (try dsimp only at hSw); have q0 := cell_later hSw v0; have q1 := cell_later hSw v1; have q2 := cell_later hSw v2; have q3 := cell_later hSw v3; have q4 := cell_later hSw v4; have q5 := cell_later hSw v5; first | (go_simp; done) | (go_simp; with_reducible rfl)
    try simp only [Act.put, List.setIfInBounds_toArray, List.set_cons_zero, List.set_cons_succ, List.getElem_toArray, List.getElem_cons_zero, List.getElem_cons_succ]
    refine wpAnyH_take (i := 12) (v := ?va10x12) rfl (by kernel_rfl) (by kernel_rfl) (by kernel_rfl) (fun _ _ _ h => h) (Or.inl ⟨by rfl, ?ha10x12⟩) hHeld ?ra10x12
    case ha10x12 => intro w9 hSw; (try dsimp only at hSw); have q0 := cell_later hSw v0; have q1 := cell_later hSw v1; have q2 := cell_later hSw v2; have q3 := cell_later hSw v3; have q4 := cell_later hSw v4; have q5 := cell_later hSw v5; first | (go_simp; done) | (go_simp; with_reducible rfl)
    try simp only [Act.put, List.setIfInBounds_toArray, List.set_cons_zero, List.set_cons_succ, List.getElem_toArray, List.getElem_cons_zero, List.getElem_cons_succ]
    refine wpAnyH_take (i := 13) (v := ?va11x13) rfl (by kernel_rfl) (by kernel_rfl) (by kernel_rfl) (fun _ _ _ h => h) (Or.inl ⟨by rfl, ?ha11x13⟩) hHeld ?ra11x13
    case ha11x13 => intro w9 hSw; (try dsimp only at hSw); have q0 := cell_later hSw v0; have q1 := cell_later hSw v1; have q2 := cell_later hSw v2; have q3 := cell_later hSw v3; have q4 := cell_later hSw v4; have q5 := cell_later hSw v5; first | (go_simp; done) | (go_simp; with_reducible rfl)
    try simp only [Act.put, List.setIfInBounds_toArray, List.set_cons_zero, List.set_cons_succ, List.getElem_toArray, List.getElem_cons_zero, List.getElem_cons_succ]
    refine wpAnyH_take (i := 14) (v := ?va12x14) rfl (by kernel_rfl) (by kernel_rfl) (by kernel_rfl) (fun _ _ _ h => h) (Or.inl ⟨by rfl, ?ha12x14⟩) hHeld ?ra12x14
    case ha12x14 => intro w9 hSw; (try dsimp only at hSw); have q0 := cell_later hSw v0; have q1 := cell_later hSw v1; have q2 := cell_later hSw v2; have q3 := cell_later hSw v3; have q4 := cell_later hSw v4; have q5 := cell_later hSw v5; first | (go_simp; done) | (go_simp; with_reducible rfl)
    try simp only [Act.put, List.setIfInBounds_toArray, List.set_cons_zero, List.set_cons_succ, List.getElem_toArray, List.getElem_cons_zero, List.getElem_cons_succ]
    refine wpAnyH_take (i := 15) (v := ?va13x15) rfl (by kernel_rfl) (by kernel_rfl) (by kernel_rfl) (fun _ _ _ h => h) (Or.inl ⟨by rfl, ?ha13x15⟩) hHeld ?ra13x15
    case ha13x15 => intro w9 hSw; (try dsimp only at hSw); have q0 := cell_later hSw v0; have q1 := cell_later hSw v1; have q2 := cell_later hSw v2; have q3 := cell_later hSw v3; have q4 := cell_later hSw v4; have q5 := cell_later hSw v5; first | (go_simp; done) | (go_simp; with_reducible rfl)
    try simp only [Act.put, List.setIfInBounds_toArray, List.set_cons_zero, List.set_cons_succ, List.getElem_toArray, List.getElem_cons_zero, List.getElem_cons_succ]
    refine wpAnyH_take (i := 16) (v := ?va14x16) rfl (by kernel_rfl) (by kernel_rfl) (by kernel_rfl) (fun _ _ _ h => h) (Or.inl ⟨by rfl, ?ha14x16⟩) hHeld ?ra14x16
    case ha14x16 => intro w9 hSw; (try dsimp only at hSw); have q0 := cell_later hSw v0; have q1 := cell_later hSw v1; have q2 := cell_later hSw v2; have q3 := cell_later hSw v3; have q4 := cell_later hSw v4; have q5 := cell_later hSw v5; first | (go_simp; done) | (go_simp; with_reducible rfl)
    try simp only [Act.put, List.setIfInBounds_toArray, List.set_cons_zero, List.set_cons_succ, List.getElem_toArray, List.getElem_cons_zero, List.getElem_cons_succ]
    refine wpAnyH_take (i := 17) (v := ?va15x17) rfl (by kernel_rfl) (by kernel_rfl) (by kernel_rfl) (fun _ _ _ h => h) (Or.inl ⟨by rfl, ?ha15x17⟩) hHeld ?ra15x17
    case ha15x17 => intro w9 hSw; (try dsimp only at hSw); have q0 := cell_later hSw v0; have q1 := cell_later hSw v1; have q2 := cell_later hSw v2; have q3 := cell_later hSw v3; have q4 := cell_later hSw v4; have q5 := cell_later hSw v5; first | (go_simp; done) | (go_simp; with_reducible rfl)
    try simp only [Act.put, List.setIfInBounds_toArray, List.set_cons_zero, List.set_cons_succ, List.getElem_toArray, List.getElem_cons_zero, List.getElem_cons_succ]
    refine wpAnyH_take (i := 18) (v := ?va16x18) rfl (by kernel_rfl) (by kernel_rfl) (by kernel_rfl) (fun _ _ _ h => h) (Or.inl ⟨by rfl, ?ha16x18⟩) hHeld ?ra16x18
    case ha16x18 => intro w9 hSw; (try dsimp only at hSw); have q0 := cell_later hSw v0; have q1 := cell_later hSw v1; have q2 := cell_later hSw v2; have q3 := cell_later hSw v3; have q4 := cell_later hSw v4; have q5 := cell_later hSw v5; first | (go_simp; done) | (go_simp; with_reducible rfl)
    try simp only [Act.put, List.setIfInBounds_toArray, List.set_cons_zero, List.set_cons_succ, List.getElem_toArray, List.getElem_cons_zero, List.getElem_cons_succ]
    refine wpAnyH_take (i := 23) (v := ?va17x23) rfl (by kernel_rfl) (by kernel_rfl) (by kernel_rfl) (fun _ _ _ h => h) (Or.inl ⟨by rfl, ?ha17x23⟩) hHeld ?ra17x23
    case ha17x23 => intro w9 hSw; (try dsimp only at hSw); have q0 := cell_later hSw v0; have q1 := cell_later hSw v1; have q2 := cell_later hSw v2; have q3 := cell_later hSw v3; have q4 := cell_later hSw v4; have q5 := cell_later hSw v5; first | (go_simp; done) | (go_simp; with_reducible rfl)
    try simp only [Act.put, List.setIfInBounds_toArray, List.set_cons_zero, List.set_cons_succ, List.getElem_toArray, List.getElem_cons_zero, List.getElem_cons_succ]
    refine wpAnyH_take (i := 24) (v := ?va18x24) rfl (by kernel_rfl) (by kernel_rfl) (by kernel_rfl) (fun _ _ _ h => h) (Or.inl ⟨by rfl, ?ha18x24⟩) hHeld ?ra18x24
    case ha18x24 => intro w9 hSw; (try dsimp only at hSw); have q0 := cell_later hSw v0; have q1 := cell_later hSw v1; have q2 := cell_later hSw v2; have q3 := cell_later hSw v3; have q4 := cell_later hSw v4; have q5 := cell_later hSw v5; first | (go_simp; done) | (go_simp; with_reducible rfl)
    try simp only [Act.put, List.setIfInBounds_toArray, List.set_cons_zero, List.set_cons_succ, List.getElem_toArray, List.getElem_cons_zero, List.getElem_cons_succ]
    refine wpAnyH_take (i := 25) (v := ?va19x25) rfl (by kernel_rfl) (by kernel_rfl) (by kernel_rfl) (fun _ _ _ h => h) (Or.inl ⟨by rfl, ?ha19x25⟩) hHeld ?ra19x25
    case ha19x25 => intro w9 hSw; (try dsimp only at hSw); have q0 := cell_later hSw v0; have q1 := cell_later hSw v1; have q2 := cell_later hSw v2; have q3 := cell_later hSw v3; have q4 := cell_later hSw v4; have q5 := cell_later hSw v5; first | (go_simp; done) | (go_simp; with_reducible rfl)
    try simp only [Act.put, List.setIfInBounds_toArray, List.set_cons_zero, List.set_cons_succ, List.getElem_toArray, List.getElem_cons_zero, List.getElem_cons_succ]
    refine wpAnyH_take (i := 26) (v := ?va20x26) rfl (by kernel_rfl) (by kernel_rfl) (by kernel_rfl) (fun _ _ _ h => h) (Or.inl ⟨by rfl, ?ha20x26⟩) hHeld ?ra20x26
    case ha20x26 => intro w9 hSw; (try dsimp only at hSw); have q0 := cell_later hSw v0; have q1 := cell_later hSw v1; have q2 := cell_later hSw v2; have q3 := cell_later hSw v3; have q4 := cell_later hSw v4; have q5 := cell_later hSw v5; first | (go_simp; done) | (go_simp; with_reducible rfl)
    try simp only [Act.put, List.setIfInBounds_toArray, List.set_cons_zero, List.set_cons_succ, List.getElem_toArray, List.getElem_cons_zero, List.getElem_cons_succ]
    refine wpAnyH_ready (rs := [8, 19]) (by kernel_rfl) (by simp) (AllReadyH.cons rfl (fun K hK => ?_) (AllReadyH.cons rfl (fun K hK => ?_) AllReadyH.nil))
    · go_simp
      refine hK.out _ _ (below_on hHeld (below_alloc w0 (.cells #[.int .i64 a, .int .i64 b] 2))) (fun hHeldx => ?_)
      clear hK K
      try simp only [Act.put, List.setIfInBounds_toArray, List.set_cons_zero, List.set_cons_succ, List.getElem_toArray, List.getElem_cons_zero, List.getElem_cons_succ]
      refine forgetH (fun wx => Below w.heap.size w wx ∧ RdI (fun _ => True) wx (.slice (some ⟨w0.heap.size, 0, none⟩) 2 2) [a, b]) ⟨hHeldx, rdI_new2 w0 _ _ _⟩ ?_
      clear hHeldx
      rintro w21 ⟨hHeld21, qX⟩
      have Q21X := hide qX
      clear qX
      refine wpAnyH_ready (rs := [9, 19]) (by kernel_rfl) (by simp) (AllReadyH.cons rfl (fun K hK => ?_) (AllReadyH.cons rfl (fun K hK => ?_) AllReadyH.nil))
      · go_simp
        go_at_call 54
        refine (H1.out w21 _ Q21X.out).mono ?_
        rintro e w22 ⟨rfl, hb⟩
        refine hK.out _ _ (below_on hHeld21 hb) (fun hHeld22 => ?_)
        clear hK K
        try simp only [Act.put, List.setIfInBounds_toArray, List.set_cons_zero, List.set_cons_succ, List.getElem_toArray, List.getElem_cons_zero, List.getElem_cons_succ]
        have Q22X := hide (Q21X.out.later hb)
        clear hb
        refine wpAnyH_take (i := 10) (v := ?va23x10) rfl (by kernel_rfl) (by kernel_rfl) (by kernel_rfl) (fun _ _ _ h => h) (Or.inl ⟨by rfl, ?ha23x10⟩) hHeld22 ?ra23x10
        case ha23x10 => intro w9 hSw; (try dsimp only at hSw); have q0 := cell_later hSw v0; have q1 := cell_later hSw v1; have q2 := cell_later hSw v2; have q3 := cell_later hSw v3; have q4 := cell_later hSw v4; have q5 := cell_later hSw v5; first | (go_simp; done) | (go_simp; with_reducible rfl)
        try simp only [Act.put, List.setIfInBounds_toArray, List.set_cons_zero, List.set_cons_succ, List.getElem_toArray, List.getElem_cons_zero, List.getElem_cons_succ]
        refine wpAnyH_ready (rs := [19]) (by kernel_rfl) (by simp) (AllReadyH.cons rfl (fun K hK => ?_) AllReadyH.nil)
        go_simp
        refine hK.out _ _ (below_on hHeld22 (below_alloc w22 (.cells #[.int .i64 c, .int .i64 d] 2))) (fun hHeldx => ?_)
        clear hK K
        try simp only [Act.put, List.setIfInBounds_toArray, List.set_cons_zero, List.set_cons_succ, List.getElem_toArray, List.getElem_cons_zero, List.getElem_cons_succ]
        refine forgetH (fun wx => Below w.heap.size w wx ∧ RdI (fun _ => True) wx (.slice (some ⟨w22.heap.size, 0, none⟩) 2 2) [c, d] ∧ RdI (fun _ => True) wx (.slice (some ⟨w0.heap.size, 0, none⟩) 2 2) [a, b]) ⟨hHeldx, rdI_new2 w22 _ _ _, Q22X.out.later (below_alloc w22 (.cells #[.int .i64 c, .int .i64 d] 2))⟩ ?_
        clear hHeldx
        rintro w24 ⟨hHeld24, qY, qX⟩
        have Q24Y := hide qY
        clear qY
        have Q24X := hide qX
        clear qX
        refine wpAnyH_ready (rs := [20]) (by kernel_rfl) (by simp) (AllReadyH.cons rfl (fun K hK => ?_) AllReadyH.nil)
        go_simp
        go_at_call 54
        refine (H2.out w24 _ Q24Y.out).mono ?_
        rintro e w25 ⟨rfl, hb⟩
        refine hK.out _ _ (below_on hHeld24 hb) (fun hHeld25 => ?_)
        clear hK K
        try simp only [Act.put, List.setIfInBounds_toArray, List.set_cons_zero, List.set_cons_succ, List.getElem_toArray, List.getElem_cons_zero, List.getElem_cons_succ]
        have Q25X := hide (Q24X.out.later hb)
        have Q25Y := hide (Q24Y.out.later hb)
        clear hb
        refine wpAnyH_take (i := 21) (v := ?va26x21) rfl (by kernel_rfl) (by kernel_rfl) (by kernel_rfl) (fun _ _ _ h => h) (Or.inl ⟨by rfl, ?ha26x21⟩) hHeld25 ?ra26x21
        case ha26x21 => intro w9 hSw; (try dsimp only at hSw); have q0 := cell_later hSw v0; have q1 := cell_later hSw v1; have q2 := cell_later hSw v2; have q3 := cell_later hSw v3; have q4 := cell_later hSw v4; have q5 := cell_later hSw v5; first | (go_simp; done) | (go_simp; with_reducible rfl)
        try simp only [Act.put, List.setIfInBounds_toArray, List.set_cons_zero, List.set_cons_succ, List.getElem_toArray, List.getElem_cons_zero, List.getElem_cons_succ]
        refine wpAnyH_take (i := 22) (v := ?va27x22) rfl (by kernel_rfl) (by kernel_rfl) (by kernel_rfl) (fun _ _ _ h => h) (Or.inl ⟨by rfl, ?ha27x22⟩) hHeld25 ?ra27x22
        case ha27x22 => intro w9 hSw; (try dsimp only at hSw); have q0 := cell_later hSw v0; have q1 := cell_later hSw v1; have q2 := cell_later hSw v2; have q3 := cell_later hSw v3; have q4 := cell_later hSw v4; have q5 := cell_later hSw v5; first | (go_simp; done) | (go_simp; with_reducible rfl)
        try simp only [Act.put, List.setIfInBounds_toArray, List.set_cons_zero, List.set_cons_succ, List.getElem_toArray, List.getElem_cons_zero, List.getElem_cons_succ]
        refine wpAnyH_ready (rs := [27]) (by kernel_rfl) (by simp) (AllReadyH.cons rfl (fun K hK => ?_) AllReadyH.nil)
        go_simp
        go_at_call 55
        refine (H3.out w25 hHeld25).mono ?_
        rintro e w28 ⟨rfl, hb⟩
        refine hK.out _ _ (below_on hHeld25 hb) (fun hHeld28 => ?_)
        clear hK K
        try simp only [Act.put, List.setIfInBounds_toArray, List.set_cons_zero, List.set_cons_succ, List.getElem_toArray, List.getElem_cons_zero, List.getElem_cons_succ]
        have Q28X := hide (Q25X.out.later hb)
        have Q28Y := hide (Q25Y.out.later hb)
        clear hb
        refine wpAnyH_take (i := 28) (v := ?va29x28) rfl (by kernel_rfl) (by kernel_rfl) (by kernel_rfl) (fun _ _ _ h => h) (Or.inl ⟨by rfl, ?ha29x28⟩) hHeld28 ?ra29x28
        case ha29x28 => intro w9 hSw; (try dsimp only at hSw); have q0 := cell_later hSw v0; have q1 := cell_later hSw v1; have q2 := cell_later hSw v2; have q3 := cell_later hSw v3; have q4 := cell_later hSw v4; have q5 := cell_later hSw v5; first | (go_simp; done) | (go_simp; with_reducible rfl)
        try simp only [Act.put, List.setIfInBounds_toArray, List.set_cons_zero, List.set_cons_succ, List.getElem_toArray, List.getElem_cons_zero, List.getElem_cons_succ]
        refine wpAnyH_take (i := 29) (v := ?va30x29) rfl (by kernel_rfl) (by kernel_rfl) (by kernel_rfl) (fun _ _ _ h => h) (Or.inl ⟨by rfl, ?ha30x29⟩) hHeld28 ?ra30x29
        case ha30x29 => intro w9 hSw; (try dsimp only at hSw); have q0 := cell_later hSw v0; have q1 := cell_later hSw v1; have q2 := cell_later hSw v2; have q3 := cell_later hSw v3; have q4 := cell_later hSw v4; have q5 := cell_later hSw v5; first | (go_simp; done) | (go_simp; with_reducible rfl)
        try simp only [Act.put, List.setIfInBounds_toArray, List.set_cons_zero, List.set_cons_succ, List.getElem_toArray, List.getElem_cons_zero, List.getElem_cons_succ]
        refine wpAnyH_take (i := 30) (v := ?va31x30) rfl (by kernel_rfl) (by kernel_rfl) (by kernel_rfl) (fun _ _ _ h => h) (Or.inl ⟨by rfl, ?ha31x30⟩) hHeld28 ?ra31x30
        case ha31x30 => intro w9 hSw; (try dsimp only at hSw); have q0 := cell_later hSw v0; have q1 := cell_later hSw v1; have q2 := cell_later hSw v2; have q3 := cell_later hSw v3; have q4 := cell_later hSw v4; have q5 := cell_later hSw v5; first | (go_simp; done) | (go_simp; with_reducible rfl)
        try simp only [Act.put, List.setIfInBounds_toArray, List.set_cons_zero, List.set_cons_succ, List.getElem_toArray, List.getElem_cons_zero, List.getElem_cons_succ]
        refine wpAnyH_done (by kernel_rfl) ?_ _
        go_wp2_with fail
        go_meet
        case rel => exact ⟨rfl, unhide (hide hHeld28)⟩
      · go_simp
        refine hK.out _ _ (below_on hHeld21 (below_alloc w21 (.cells #[.int .i64 c, .int .i64 d] 2))) (fun hHeldx => ?_)
        clear hK K
        try simp only [Act.put, List.setIfInBounds_toArray, List.set_cons_zero, List.set_cons_succ, List.getElem_toArray, List.getElem_cons_zero, List.getElem_cons_succ]
        refine forgetH (fun wx => Below w.heap.size w wx ∧ RdI (fun _ => True) wx (.slice (some ⟨w21.heap.size, 0, none⟩) 2 2) [c, d] ∧ RdI (fun _ => True) wx (.slice (some ⟨w0.heap.size, 0, none⟩) 2 2) [a, b]) ⟨hHeldx, rdI_new2 w21 _ _ _, Q21X.out.later (below_alloc w21 (.cells #[.int .i64 c, .int .i64 d] 2))⟩ ?_
        clear hHeldx
        rintro w32 ⟨hHeld32, qY, qX⟩
        have Q32Y := hide qY
        clear qY
        have Q32X := hide qX
        clear qX
        refine wpAnyH_ready (rs := [9]) (by kernel_rfl) (by simp) (AllReadyH.cons rfl (fun K hK => ?_) AllReadyH.nil)
        go_simp
        go_at_call 54
        refine (H1.out w32 _ Q32X.out).mono ?_
        rintro e w33 ⟨rfl, hb⟩
        refine hK.out _ _ (below_on hHeld32 hb) (fun hHeld33 => ?_)
        clear hK K
        try simp only [Act.put, List.setIfInBounds_toArray, List.set_cons_zero, List.set_cons_succ, List.getElem_toArray, List.getElem_cons_zero, List.getElem_cons_succ]
        have Q33X := hide (Q32X.out.later hb)
        have Q33Y := hide (Q32Y.out.later hb)
        clear hb
        refine wpAnyH_take (i := 10) (v := ?va34x10) rfl (by kernel_rfl) (by kernel_rfl) (by kernel_rfl) (fun _ _ _ h => h) (Or.inl ⟨by rfl, ?ha34x10⟩) hHeld33 ?ra34x10
        case ha34x10 => intro w9 hSw; (try dsimp only at hSw); have q0 := cell_later hSw v0; have q1 := cell_later hSw v1; have q2 := cell_later hSw v2; have q3 := cell_later hSw v3; have q4 := cell_later hSw v4; have q5 := cell_later hSw v5; first | (go_simp; done) | (go_simp; with_reducible rfl)
        try simp only [Act.put, List.setIfInBounds_toArray, List.set_cons_zero, List.set_cons_succ, List.getElem_toArray, List.getElem_cons_zero, List.getElem_cons_succ]
        refine wpAnyH_ready (rs := [20]) (by kernel_rfl) (by simp) (AllReadyH.cons rfl (fun K hK => ?_) AllReadyH.nil)
        go_simp
        go_at_call 54
        refine (H2.out w33 _ Q33Y.out).mono ?_
        rintro e w35 ⟨rfl, hb⟩
        refine hK.out _ _ (below_on hHeld33 hb) (fun hHeld35 => ?_)
        clear hK K
        try simp only [Act.put, List.setIfInBounds_toArray, List.set_cons_zero, List.set_cons_succ, List.getElem_toArray, List.getElem_cons_zero, List.getElem_cons_succ]
        have Q35X := hide (Q33X.out.later hb)
        have Q35Y := hide (Q33Y.out.later hb)
        clear hb
        refine wpAnyH_take (i := 21) (v := ?va36x21) rfl (by kernel_rfl) (by kernel_rfl) (by kernel_rfl) (fun _ _ _ h => h) (Or.inl ⟨by rfl, ?ha36x21⟩) hHeld35 ?ra36x21
        case ha36x21 => intro w9 hSw; (try dsimp only at hSw); have q0 := cell_later hSw v0; have q1 := cell_later hSw v1; have q2 := cell_later hSw v2; have q3 := cell_later hSw v3; have q4 := cell_later hSw v4; have q5 := cell_later hSw v5; first | (go_simp; done) | (go_simp; with_reducible rfl)
        try simp only [Act.put, List.setIfInBounds_toArray, List.set_cons_zero, List.set_cons_succ, List.getElem_toArray, List.getElem_cons_zero, List.getElem_cons_succ]
        refine wpAnyH_take (i := 22) (v := ?va37x22) rfl (by kernel_rfl) (by kernel_rfl) (by kernel_rfl) (fun _ _ _ h => h) (Or.inl ⟨by rfl, ?ha37x22⟩) hHeld35 ?ra37x22
        case ha37x22 => intro w9 hSw; (try dsimp only at hSw); have q0 := cell_later hSw v0; have q1 := cell_later hSw v1; have q2 := cell_later hSw v2; have q3 := cell_later hSw v3; have q4 := cell_later hSw v4; have q5 := cell_later hSw v5; first | (go_simp; done) | (go_simp; with_reducible rfl)
        try simp only [Act.put, List.setIfInBounds_toArray, List.set_cons_zero, List.set_cons_succ, List.getElem_toArray, List.getElem_cons_zero, List.getElem_cons_succ]
        refine wpAnyH_ready (rs := [27]) (by kernel_rfl) (by simp) (AllReadyH.cons rfl (fun K hK => ?_) AllReadyH.nil)
        go_simp
        go_at_call 55
        refine (H3.out w35 hHeld35).mono ?_
        rintro e w38 ⟨rfl, hb⟩
        refine hK.out _ _ (below_on hHeld35 hb) (fun hHeld38 => ?_)
        clear hK K
        try simp only [Act.put, List.setIfInBounds_toArray, List.set_cons_zero, List.set_cons_succ, List.getElem_toArray, List.getElem_cons_zero, List.getElem_cons_succ]
        have Q38X := hide (Q35X.out.later hb)
        have Q38Y := hide (Q35Y.out.later hb)
        clear hb
        refine wpAnyH_take (i := 28) (v := ?va39x28) rfl (by kernel_rfl) (by kernel_rfl) (by kernel_rfl) (fun _ _ _ h => h) (Or.inl ⟨by rfl, ?ha39x28⟩) hHeld38 ?ra39x28
        case ha39x28 => intro w9 hSw; (try dsimp only at hSw); have q0 := cell_later hSw v0; have q1 := cell_later hSw v1; have q2 := cell_later hSw v2; have q3 := cell_later hSw v3; have q4 := cell_later hSw v4; have q5 := cell_later hSw v5; first | (go_simp; done) | (go_simp; with_reducible rfl)
        try simp only [Act.put, List.setIfInBounds_toArray, List.set_cons_zero, List.set_cons_succ, List.getElem_toArray, List.getElem_cons_zero, List.getElem_cons_succ]
        refine wpAnyH_take (i := 29) (v := ?va40x29) rfl (by kernel_rfl) (by kernel_rfl) (by kernel_rfl) (fun _ _ _ h => h) (Or.inl ⟨by rfl, ?ha40x29⟩) hHeld38 ?ra40x29
        case ha40x29 => intro w9 hSw; (try dsimp only at hSw); have q0 := cell_later hSw v0; have q1 := cell_later hSw v1; have q2 := cell_later hSw v2; have q3 := cell_later hSw v3; have q4 := cell_later hSw v4; have q5 := cell_later hSw v5; first | (go_simp; done) | (go_simp; with_reducible rfl)
        try simp only [Act.put, List.setIfInBounds_toArray, List.set_cons_zero, List.set_cons_succ, List.getElem_toArray, List.getElem_cons_zero, List.getElem_cons_succ]
        refine wpAnyH_take (i := 30) (v := ?va41x30) rfl (by kernel_rfl) (by kernel_rfl) (by kernel_rfl) (fun _ _ _ h => h) (Or.inl ⟨by rfl, ?ha41x30⟩) hHeld38 ?ra41x30
        case ha41x30 => intro w9 hSw; (try dsimp only at hSw); have q0 := cell_later hSw v0; have q1 := cell_later hSw v1; have q2 := cell_later hSw v2; have q3 := cell_later hSw v3; have q4 := cell_later hSw v4; have q5 := cell_later hSw v5; first | (go_simp; done) | (go_simp; with_reducible rfl)
        try simp only [Act.put, List.setIfInBounds_toArray, List.set_cons_zero, List.set_cons_succ, List.getElem_toArray, List.getElem_cons_zero, List.getElem_cons_succ]
        refine wpAnyH_done (by kernel_rfl) ?_ _
        go_wp2_with fail
        go_meet
        case rel => exact ⟨rfl, unhide (hide hHeld38)⟩
    · go_simp
      refine hK.out _ _ (below_on hHeld (below_alloc w0 (.cells #[.int .i64 c, .int .i64 d] 2))) (fun hHeldx => ?_)
      clear hK K
      try simp only [Act.put, List.setIfInBounds_toArray, List.set_cons_zero, List.set_cons_succ, List.getElem_toArray, List.getElem_cons_zero, List.getElem_cons_succ]
      refine forgetH (fun wx => Below w.heap.size w wx ∧ RdI (fun _ => True) wx (.slice (some ⟨w0.heap.size, 0, none⟩) 2 2) [c, d]) ⟨hHeldx, rdI_new2 w0 _ _ _⟩ ?_
      clear hHeldx
      rintro w42 ⟨hHeld42, qY⟩
      have Q42Y := hide qY
      clear qY
      refine wpAnyH_ready (rs := [8]) (by kernel_rfl) (by simp) (AllReadyH.cons rfl (fun K hK => ?_) AllReadyH.nil)
      go_simp
      refine hK.out _ _ (below_on hHeld42 (below_alloc w42 (.cells #[.int .i64 a, .int .i64 b] 2))) (fun hHeldx => ?_)
      clear hK K
      try simp only [Act.put, List.setIfInBounds_toArray, List.set_cons_zero, List.set_cons_succ, List.getElem_toArray, List.getElem_cons_zero, List.getElem_cons_succ]
      refine forgetH (fun wx => Below w.heap.size w wx ∧ RdI (fun _ => True) wx (.slice (some ⟨w42.heap.size, 0, none⟩) 2 2) [a, b] ∧ RdI (fun _ => True) wx (.slice (some ⟨w0.heap.size, 0, none⟩) 2 2) [c, d]) ⟨hHeldx, rdI_new2 w42 _ _ _, Q42Y.out.later (below_alloc w42 (.cells #[.int .i64 a, .int .i64 b] 2))⟩ ?_
      clear hHeldx
      rintro w43 ⟨hHeld43, qX, qY⟩
      have Q43X := hide qX
      clear qX
      have Q43Y := hide qY
      clear qY
      refine wpAnyH_ready (rs := [9]) (by kernel_rfl) (by simp) (AllReadyH.cons rfl (fun K hK => ?_) AllReadyH.nil)
      go_simp
      go_at_call 54
      refine (H1.out w43 _ Q43X.out).mono ?_
      rintro e w44 ⟨rfl, hb⟩
      refine hK.out _ _ (below_on hHeld43 hb) (fun hHeld44 => ?_)
      clear hK K
      try simp only [Act.put, List.setIfInBounds_toArray, List.set_cons_zero, List.set_cons_succ, List.getElem_toArray, List.getElem_cons_zero, List.getElem_cons_succ]
      have Q44Y := hide (Q43Y.out.later hb)
      have Q44X := hide (Q43X.out.later hb)
      clear hb
      refine wpAnyH_take (i := 10) (v := ?va45x10) rfl (by kernel_rfl) (by kernel_rfl) (by kernel_rfl) (fun _ _ _ h => h) (Or.inl ⟨by rfl, ?ha45x10⟩) hHeld44 ?ra45x10
      case ha45x10 => intro w9 hSw; (try dsimp only at hSw); have q0 := cell_later hSw v0; have q1 := cell_later hSw v1; have q2 := cell_later hSw v2; have q3 := cell_later hSw v3; have q4 := cell_later hSw v4; have q5 := cell_later hSw v5; first | (go_simp; done) | (go_simp; with_reducible rfl)
      try simp only [Act.put, List.setIfInBounds_toArray, List.set_cons_zero, List.set_cons_succ, List.getElem_toArray, List.getElem_cons_zero, List.getElem_cons_succ]
      refine wpAnyH_ready (rs := [20]) (by kernel_rfl) (by simp) (AllReadyH.cons rfl (fun K hK => ?_) AllReadyH.nil)
      go_simp
      go_at_call 54
      refine (H2.out w44 _ Q44Y.out).mono ?_
      rintro e w46 ⟨rfl, hb⟩
      refine hK.out _ _ (below_on hHeld44 hb) (fun hHeld46 => ?_)
      clear hK K
      try simp only [Act.put, List.setIfInBounds_toArray, List.set_cons_zero, List.set_cons_succ, List.getElem_toArray, List.getElem_cons_zero, List.getElem_cons_succ]
      have Q46Y := hide (Q44Y.out.later hb)
      have Q46X := hide (Q44X.out.later hb)
      clear hb
      refine wpAnyH_take (i := 21) (v := ?va47x21) rfl (by kernel_rfl) (by kernel_rfl) (by kernel_rfl) (fun _ _ _ h => h) (Or.inl ⟨by rfl, ?ha47x21⟩) hHeld46 ?ra47x21
      case ha47x21 => intro w9 hSw; (try dsimp only at hSw); have q0 := cell_later hSw v0; have q1 := cell_later hSw v1; have q2 := cell_later hSw v2; have q3 := cell_later hSw v3; have q4 := cell_later hSw v4; have q5 := cell_later hSw v5; first | (go_simp; done) | (go_simp; with_reducible rfl)
      try simp only [Act.put, List.setIfInBounds_toArray, List.set_cons_zero, List.set_cons_succ, List.getElem_toArray, List.getElem_cons_zero, List.getElem_cons_succ]
      refine wpAnyH_take (i := 22) (v := ?va48x22) rfl (by kernel_rfl) (by kernel_rfl) (by kernel_rfl) (fun _ _ _ h => h) (Or.inl ⟨by rfl, ?ha48x22⟩) hHeld46 ?ra48x22
      case ha48x22 => intro w9 hSw; (try dsimp only at hSw); have q0 := cell_later hSw v0; have q1 := cell_later hSw v1; have q2 := cell_later hSw v2; have q3 := cell_later hSw v3; have q4 := cell_later hSw v4; have q5 := cell_later hSw v5; first | (go_simp; done) | (go_simp; with_reducible rfl)
      try simp only [Act.put, List.setIfInBounds_toArray, List.set_cons_zero, List.set_cons_succ, List.getElem_toArray, List.getElem_cons_zero, List.getElem_cons_succ]
      refine wpAnyH_ready (rs := [27]) (by kernel_rfl) (by simp) (AllReadyH.cons rfl (fun K hK => ?_) AllReadyH.nil)
      go_simp
      go_at_call 55
      refine (H3.out w46 hHeld46).mono ?_
      rintro e w49 ⟨rfl, hb⟩
      refine hK.out _ _ (below_on hHeld46 hb) (fun hHeld49 => ?_)
      clear hK K
      try simp only [Act.put, List.setIfInBounds_toArray, List.set_cons_zero, List.set_cons_succ, List.getElem_toArray, List.getElem_cons_zero, List.getElem_cons_succ]
      have Q49Y := hide (Q46Y.out.later hb)
      have Q49X := hide (Q46X.out.later hb)
      clear hb
      refine wpAnyH_take (i := 28) (v := ?va50x28) rfl (by kernel_rfl) (by kernel_rfl) (by kernel_rfl) (fun _ _ _ h => h) (Or.inl ⟨by rfl, ?ha50x28⟩) hHeld49 ?ra50x28
      case ha50x28 => intro w9 hSw; (try dsimp only at hSw); have q0 := cell_later hSw v0; have q1 := cell_later hSw v1; have q2 := cell_later hSw v2; have q3 := cell_later hSw v3; have q4 := cell_later hSw v4; have q5 := cell_later hSw v5; first | (go_simp; done) | (go_simp; with_reducible rfl)
      try simp only [Act.put, List.setIfInBounds_toArray, List.set_cons_zero, List.set_cons_succ, List.getElem_toArray, List.getElem_cons_zero, List.getElem_cons_succ]
      refine wpAnyH_take (i := 29) (v := ?va51x29) rfl (by kernel_rfl) (by kernel_rfl) (by kernel_rfl) (fun _ _ _ h => h) (Or.inl ⟨by rfl, ?ha51x29⟩) hHeld49 ?ra51x29
      case ha51x29 => intro w9 hSw; (try dsimp only at hSw); have q0 := cell_later hSw v0; have q1 := cell_later hSw v1; have q2 := cell_later hSw v2; have q3 := cell_later hSw v3; have q4 := cell_later hSw v4; have q5 := cell_later hSw v5; first | (go_simp; done) | (go_simp; with_reducible rfl)
      try simp only [Act.put, List.setIfInBounds_toArray, List.set_cons_zero, List.set_cons_succ, List.getElem_toArray, List.getElem_cons_zero, List.getElem_cons_succ]
      refine wpAnyH_take (i := 30) (v := ?va52x30) rfl (by kernel_rfl) (by kernel_rfl) (by kernel_rfl) (fun _ _ _ h => h) (Or.inl ⟨by rfl, ?ha52x30⟩) hHeld49 ?ra52x30
      case ha52x30 => intro w9 hSw; (try dsimp only at hSw); have q0 := cell_later hSw v0; have q1 := cell_later hSw v1; have q2 := cell_later hSw v2; have q3 := cell_later hSw v3; have q4 := cell_later hSw v4; have q5 := cell_later hSw v5; first | (go_simp; done) | (go_simp; with_reducible rfl)
      try simp only [Act.put, List.setIfInBounds_toArray, List.set_cons_zero, List.set_cons_succ, List.getElem_toArray, List.getElem_cons_zero, List.getElem_cons_succ]
      refine wpAnyH_done (by kernel_rfl) ?_ _
      go_wp2_with fail
      go_meet
      case rel => exact ⟨rfl, unhide (hide hHeld49)⟩
  case rest =>
    obtain ⟨rfl, HBc⟩ := hcut
    clear v0 v1 v2 v3 v4 v5 cat1 cat2 cat3 cat4 cat5 H1 H2 H3
    go_wp2
    go_loopw [3, 4] (fun t i wr => ∃ (k : Nat) (T : List UInt8), k ≤ n ∧ i = .int .i64 k ∧ t = .string (str T) ∧ Hid (T = headT r ++ entsT (r.lg.take k)) ∧ Hid (Below w.heap.size w wr)) (fun _ i _ => n - (intOf i).toNat)
    case atStart => exact ⟨0, A8, Nat.zero_le _, rfl, rfl, (show A8 = headT r ++ entsT (r.lg.take 0) by rw [HA8.out]; simp [entsT]), HBc⟩
    case round =>
      obtain ⟨k, T, hk, rfl, rfl, HT, HB⟩ := hrel
      have g5 := cell_later HB.out HV.out.2.2.2.2.2
      by_cases hlt : k < n
      · have hkl : k < r.lg.length := by rw [HN.out]; exact hlt
        obtain ⟨eb, eo, V, rfl, e0, e1, e2, e3⟩ := HZ.out.atT (k := k) hkl
        obtain ⟨av, cv, rfl⟩ := e3.shape
        have g0 := cell_later HB.out e0
        have g1 := cell_later HB.out e1
        have g2 := cell_later HB.out e2
        have G3 := hide (e3.later HB.out)
        have H1 := hide (fun (w' : World) (v : Value) h => HE.out w' v k hkl h)
        have H2 := hide (fun (w' : World) (hb : Below wr.heap.size wr w') => HD.out _ w' _ k hkl (G3.out.later hb))
        have HT2 : Hid (T ++ lineT entryW [(r.lg.getD k oj0).1, (r.lg.getD k oj0).2.1] ++ [32] ++ listT (r.lg.getD k oj0).2.2 ++ [10] = headT r ++ entsT (r.lg.take (k + 1))) := by
          show _ = _
          rw [entsT_snoc _ _ hkl, HT.out, entT]
          simp only [List.append_assoc]
        have hl : (T ++ lineT entryW [(r.lg.getD k oj0).1, (r.lg.getD k oj0).2.1] ++ [32] ++ listT (r.lg.getD k oj0).2.2 ++ [10]).length ≤ 1000000000000 := by
          rw [HT2.out, List.length_append, ← HA8.out]
          have h1 := HLe.out (k + 1) (by omega)
          have h2 := HL.out
          omega
        generalize (r.lg.getD k oj0).2.2.length = dl at *
        obtain ⟨E1, hE1⟩ : ∃ A, lineT entryW [(r.lg.getD k oj0).1, (r.lg.getD k oj0).2.1] = A := ⟨_, rfl⟩
        obtain ⟨E2, hE2⟩ : ∃ A, listT (r.lg.getD k oj0).2.2 = A := ⟨_, rfl⟩
        simp only [hE1] at H1 HT2 hl
        simp only [hE2] at H2 HT2 hl
        generalize (r.lg.getD k oj0).1 = x at *
        generalize (r.lg.getD k oj0).2.1 = t at *
        simp only [List.length_append, List.length_cons, List.length_nil] at hl
        have cat1 := catR T E1 _ rfl (by simp; omega)
        have cat2 := catR (T ++ E1) [32] _ rfl (by simp; omega)
        have cat3 := catR (T ++ E1 ++ [32]) E2 _ rfl (by simp; omega)
        have cat4 := catR (T ++ E1 ++ [32] ++ E2) [10] _ rfl (by simp; omega)
        obtain ⟨T1, hT1⟩ : ∃ A, T ++ E1 = A := ⟨_, rfl⟩
        rw [hT1] at cat1 cat2 cat3 cat4 HT2
        obtain ⟨T2, hT2⟩ : ∃ A, T1 ++ [32] = A := ⟨_, rfl⟩
        rw [hT2] at cat2 cat3 cat4 HT2
        obtain ⟨T3, hT3⟩ : ∃ A, T2 ++ E2 = A := ⟨_, rfl⟩
        rw [hT3] at cat3 cat4 HT2
        obtain ⟨T4, hT4⟩ : ∃ A, T3 ++ [10] = A := ⟨_, rfl⟩
        rw [hT4] at cat4 HT2
        clear hl hE1 hE2 hT1 hT2 hT3 hT4 e0 e1 e2 e3
        go_wp2_with fail
        refine wp_region_held_drew (S := fun w' => Below wr.heap.size wr w') (by kernel_rfl) (below_drewN wr 1) (fun hHeld => ?_)
        refine forgetH (fun wx => Below wr.heap.size wr wx) hHeld ?_
        clear hHeld
        rintro wr0 hHeld
        refine wpAnyH_take (i := 0) (v := ?vb1x0) rfl (by kernel_rfl) (by kernel_rfl) (by kernel_rfl) (fun _ _ _ h => h) (Or.inl ⟨by rfl, ?hb1x0⟩) hHeld ?rb1x0
        case hb1x0 => intro w9 hSw; (try dsimp only at hSw); have q0 := cell_later hSw g5; have q1 := cell_later hSw g0; have q2 := cell_later hSw g1; have q3 := cell_later hSw g2; first | (go_simp; done) | (go_simp; with_reducible rfl)
        try simp only [Act.put, List.setIfInBounds_toArray, List.set_cons_zero, List.set_cons_succ, List.getElem_toArray, List.getElem_cons_zero]
        refine wpAnyH_take (i := 1) (v := ?vb2x1) rfl (by kernel_rfl) (by kernel_rfl) (by kernel_rfl) (fun _ _ _ h => h) (Or.inl ⟨by rfl, ?hb2x1⟩) hHeld ?rb2x1
        case hb2x1 => intro w9 hSw; (try dsimp only at hSw); have q0 := cell_later hSw g5; have q1 := cell_later hSw g0; have q2 := cell_later hSw g1; have q3 := cell_later hSw g2; first | (go_simp; done) | (go_simp; with_reducible rfl)
        try simp only [Act.put, List.setIfInBounds_toArray, List.set_cons_zero, List.set_cons_succ, List.getElem_toArray, List.getElem_cons_zero, List.getElem_cons_succ]
        refine wpAnyH_take (i := 2) (v := ?vb3x2) rfl (by kernel_rfl) (by kernel_rfl) (by kernel_rfl) (fun _ _ _ h => h) (Or.inl ⟨by rfl, ?hb3x2⟩) hHeld ?rb3x2
        case hb3x2 => intro w9 hSw; (try dsimp only at hSw); have q0 := cell_later hSw g5; have q1 := cell_later hSw g0; have q2 := cell_later hSw g1; have q3 := cell_later hSw g2; first | (go_simp; done) | (go_simp; with_reducible rfl)
        try simp only [Act.put, List.setIfInBounds_toArray, List.set_cons_zero, List.set_cons_succ, List.getElem_toArray, List.getElem_cons_zero, List.getElem_cons_succ]
        refine wpAnyH_take (i := 3) (v := ?vb4x3) rfl (by kernel_rfl) (by kernel_rfl) (by kernel_rfl) (fun _ _ _ h => h) (Or.inl ⟨by rfl, ?hb4x3⟩) hHeld ?rb4x3
        case hb4x3 => intro w9 hSw; (try dsimp only at hSw); have q0 := cell_later hSw g5; have q1 := cell_later hSw g0; have q2 := cell_later hSw g1; have q3 := cell_later hSw g2; first | (go_simp; done) | (go_simp; with_reducible rfl)
        try simp only [Act.put, List.setIfInBounds_toArray, List.set_cons_zero, List.set_cons_succ, List.getElem_toArray, List.getElem_cons_zero, List.getElem_cons_succ]
        refine wpAnyH_take (i := 4) (v := ?vb5x4) rfl (by kernel_rfl) (by kernel_rfl) (by kernel_rfl) (fun _ _ _ h => h) (Or.inl ⟨by rfl, ?hb5x4⟩) hHeld ?rb5x4
        case hb5x4 => intro w9 hSw; (try dsimp only at hSw); have q0 := cell_later hSw g5; have q1 := cell_later hSw g0; have q2 := cell_later hSw g1; have q3 := cell_later hSw g2; first | (go_simp; done) | (go_simp; with_reducible rfl)
        try simp only [Act.put, List.setIfInBounds_toArray, List.set_cons_zero, List.set_cons_succ, List.getElem_toArray, List.getElem_cons_zero, List.getElem_cons_succ]
        refine wpAnyH_take (i := 5) (v := ?vb6x5) rfl (by kernel_rfl) (by kernel_rfl) (by kernel_rfl) (fun _ _ _ h => h) (Or.inl ⟨by rfl, ?hb6x5⟩) hHeld ?rb6x5
        case hb6x5 => intro w9 hSw; (try dsimp only at hSw); have q0 := cell_later hSw g5; have q1 := cell_later hSw g0; have q2 := cell_later hSw g1; have q3 := cell_later hSw g2; first | (go_simp; done) | (go_simp; with_reducible rfl)
        try simp only [Act.put, List.setIfInBounds_toArray, List.set_cons_zero, List.set_cons_succ, List.getElem_toArray, List.getElem_cons_zero, List.getElem_cons_succ]
        refine wpAnyH_take (i := 6) (v := ?vb7x6) rfl (by kernel_rfl) (by kernel_rfl) (by kernel_rfl) (fun _ _ _ h => h) (Or.inl ⟨by rfl, ?hb7x6⟩) hHeld ?rb7x6
        case hb7x6 => intro w9 hSw; (try dsimp only at hSw); have q0 := cell_later hSw g5; have q1 := cell_later hSw g0; have q2 := cell_later hSw g1; have q3 := cell_later hSw g2; first | (go_simp; done) | (go_simp; with_reducible rfl)
        try simp only [Act.put, List.setIfInBounds_toArray, List.set_cons_zero, List.set_cons_succ, List.getElem_toArray, List.getElem_cons_zero, List.getElem_cons_succ]
        refine wpAnyH_take (i := 7) (v := ?vb8x7) rfl (by kernel_rfl) (by kernel_rfl) (by kernel_rfl) (fun _ _ _ h => h) (Or.inl ⟨by rfl, ?hb8x7⟩) hHeld ?rb8x7
        case hb8x7 => intro w9 hSw; (try dsimp only at hSw); have q0 := cell_later hSw g5; have q1 := cell_later hSw g0; have q2 := cell_later hSw g1; have q3 := cell_later hSw g2; first | (go_simp; done) | (go_simp; with_reducible rfl)
        try simp only [Act.put, List.setIfInBounds_toArray, List.set_cons_zero, List.set_cons_succ, List.getElem_toArray, List.getElem_cons_zero, List.getElem_cons_succ]
        refine wpAnyH_take (i := 8) (v := ?vb9x8) rfl (by kernel_rfl) (by kernel_rfl) (by kernel_rfl) (fun _ _ _ h => h) (Or.inl ⟨by rfl, ?hb9x8⟩) hHeld ?rb9x8
        case hb9x8 => intro w9 hSw; (try dsimp only at hSw); have q0 := cell_later hSw g5; have q1 := cell_later hSw g0; have q2 := cell_later hSw g1; have q3 := cell_later hSw g2; first | (go_simp; done) | (go_simp; with_reducible rfl)
        try simp only [Act.put, List.setIfInBounds_toArray, List.set_cons_zero, List.set_cons_succ, List.getElem_toArray, List.getElem_cons_zero, List.getElem_cons_succ]
        refine wpAnyH_take (i := 9) (v := ?vb10x9) rfl (by kernel_rfl) (by kernel_rfl) (by kernel_rfl) (fun _ _ _ h => h) (Or.inl ⟨by rfl, ?hb10x9⟩) hHeld ?rb10x9
        case hb10x9 => intro w9 hSw; (try dsimp only at hSw); have q0 := cell_later hSw g5; have q1 := cell_later hSw g0; have q2 := cell_later hSw g1; have q3 := cell_later hSw g2; first | (go_simp; done) | (go_simp; with_reducible rfl)
        try simp only [Act.put, List.setIfInBounds_toArray, List.set_cons_zero, List.set_cons_succ, List.getElem_toArray, List.getElem_cons_zero, List.getElem_cons_succ]
        refine wpAnyH_take (i := 10) (v := ?vb11x10) rfl (by kernel_rfl) (by kernel_rfl) (by kernel_rfl) (fun _ _ _ h => h) (Or.inl ⟨by rfl, ?hb11x10⟩) hHeld ?rb11x10
        case hb11x10 => intro w9 hSw; (try dsimp only at hSw); have q0 := cell_later hSw g5; have q1 := cell_later hSw g0; have q2 := cell_later hSw g1; have q3 := cell_later hSw g2; first | (go_simp; done) | (go_simp; with_reducible rfl)
        try simp only [Act.put, List.setIfInBounds_toArray, List.set_cons_zero, List.set_cons_succ, List.getElem_toArray, List.getElem_cons_zero, List.getElem_cons_succ]
        refine wpAnyH_take (i := 11) (v := ?vb12x11) rfl (by kernel_rfl) (by kernel_rfl) (by kernel_rfl) (fun _ _ _ h => h) (Or.inl ⟨by rfl, ?hb12x11⟩) hHeld ?rb12x11
        case hb12x11 => intro w9 hSw; (try dsimp only at hSw); have q0 := cell_later hSw g5; have q1 := cell_later hSw g0; have q2 := cell_later hSw g1; have q3 := cell_later hSw g2; first | (go_simp; done) | (go_simp; with_reducible rfl)
        try simp only [Act.put, List.setIfInBounds_toArray, List.set_cons_zero, List.set_cons_succ, List.getElem_toArray, List.getElem_cons_zero, List.getElem_cons_succ]
        refine wpAnyH_take (i := 12) (v := ?vb13x12) rfl (by kernel_rfl) (by kernel_rfl) (by kernel_rfl) (fun _ _ _ h => h) (Or.inl ⟨by rfl, ?hb13x12⟩) hHeld ?rb13x12
        case hb13x12 => intro w9 hSw; (try dsimp only at hSw); have q0 := cell_later hSw g5; have q1 := cell_later hSw g0; have q2 := cell_later hSw g1; have q3 := cell_later hSw g2; first | (go_simp; done) | (go_simp; with_reducible rfl)
        try simp only [Act.put, List.setIfInBounds_toArray, List.set_cons_zero, List.set_cons_succ, List.getElem_toArray, List.getElem_cons_zero, List.getElem_cons_succ]
        refine wpAnyH_take (i := 13) (v := ?vb14x13) rfl (by kernel_rfl) (by kernel_rfl) (by kernel_rfl) (fun _ _ _ h => h) (Or.inl ⟨by rfl, ?hb14x13⟩) hHeld ?rb14x13
        case hb14x13 => intro w9 hSw; (try dsimp only at hSw); have q0 := cell_later hSw g5; have q1 := cell_later hSw g0; have q2 := cell_later hSw g1; have q3 := cell_later hSw g2; first | (go_simp; done) | (go_simp; with_reducible rfl)
        try simp only [Act.put, List.setIfInBounds_toArray, List.set_cons_zero, List.set_cons_succ, List.getElem_toArray, List.getElem_cons_zero, List.getElem_cons_succ]
        refine wpAnyH_take (i := 14) (v := ?vb15x14) rfl (by kernel_rfl) (by kernel_rfl) (by kernel_rfl) (fun _ _ _ h => h) (Or.inl ⟨by rfl, ?hb15x14⟩) hHeld ?rb15x14
        case hb15x14 => intro w9 hSw; (try dsimp only at hSw); have q0 := cell_later hSw g5; have q1 := cell_later hSw g0; have q2 := cell_later hSw g1; have q3 := cell_later hSw g2; first | (go_simp; done) | (go_simp; with_reducible rfl)
        try simp only [Act.put, List.setIfInBounds_toArray, List.set_cons_zero, List.set_cons_succ, List.getElem_toArray, List.getElem_cons_zero, List.getElem_cons_succ]
        refine wpAnyH_take (i := 15) (v := ?vb16x15) rfl (by kernel_rfl) (by kernel_rfl) (by kernel_rfl) (fun _ _ _ h => h) (Or.inl ⟨by rfl, ?hb16x15⟩) hHeld ?rb16x15
        case hb16x15 => intro w9 hSw; (try dsimp only at hSw); have q0 := cell_later hSw g5; have q1 := cell_later hSw g0; have q2 := cell_later hSw g1; have q3 := cell_later hSw g2; first | (go_simp; done) | (go_simp; with_reducible rfl)
        try simp only [Act.put, List.setIfInBounds_toArray, List.set_cons_zero, List.set_cons_succ, List.getElem_toArray, List.getElem_cons_zero, List.getElem_cons_succ]
        refine wpAnyH_take (i := 16) (v := ?vb17x16) rfl (by kernel_rfl) (by kernel_rfl) (by kernel_rfl) (fun _ _ _ h => h) (Or.inl ⟨by rfl, ?hb17x16⟩) hHeld ?rb17x16
        case hb17x16 => intro w9 hSw; (try dsimp only at hSw); have q0 := cell_later hSw g5; have q1 := cell_later hSw g0; have q2 := cell_later hSw g1; have q3 := cell_later hSw g2; first | (go_simp; done) | (go_simp; with_reducible rfl)
        try simp only [Act.put, List.setIfInBounds_toArray, List.set_cons_zero, List.set_cons_succ, List.getElem_toArray, List.getElem_cons_zero, List.getElem_cons_succ]
        refine wpAnyH_take (i := 21) (v := ?vb18x21) rfl (by kernel_rfl) (by kernel_rfl) (by kernel_rfl) (fun _ _ _ h => h) (Or.inl ⟨by rfl, ?hb18x21⟩) hHeld ?rb18x21
        case hb18x21 => intro w9 hSw; (try dsimp only at hSw); have q0 := cell_later hSw g5; have q1 := cell_later hSw g0; have q2 := cell_later hSw g1; have q3 := cell_later hSw g2; first | (go_simp; done) | (go_simp; with_reducible rfl)
        try simp only [Act.put, List.setIfInBounds_toArray, List.set_cons_zero, List.set_cons_succ, List.getElem_toArray, List.getElem_cons_zero, List.getElem_cons_succ]
        refine wpAnyH_take (i := 22) (v := ?vb19x22) rfl (by kernel_rfl) (by kernel_rfl) (by kernel_rfl) (fun _ _ _ h => h) (Or.inl ⟨by rfl, ?hb19x22⟩) hHeld ?rb19x22
        case hb19x22 => intro w9 hSw; (try dsimp only at hSw); have q0 := cell_later hSw g5; have q1 := cell_later hSw g0; have q2 := cell_later hSw g1; have q3 := cell_later hSw g2; first | (go_simp; done) | (go_simp; with_reducible rfl)
        try simp only [Act.put, List.setIfInBounds_toArray, List.set_cons_zero, List.set_cons_succ, List.getElem_toArray, List.getElem_cons_zero, List.getElem_cons_succ]
        refine wpAnyH_take (i := 23) (v := ?vb20x23) rfl (by kernel_rfl) (by kernel_rfl) (by kernel_rfl) (fun _ _ _ h => h) (Or.inl ⟨by rfl, ?hb20x23⟩) hHeld ?rb20x23
        case hb20x23 => intro w9 hSw; (try dsimp only at hSw); have q0 := cell_later hSw g5; have q1 := cell_later hSw g0; have q2 := cell_later hSw g1; have q3 := cell_later hSw g2; first | (go_simp; done) | (go_simp; with_reducible rfl)
        try simp only [Act.put, List.setIfInBounds_toArray, List.set_cons_zero, List.set_cons_succ, List.getElem_toArray, List.getElem_cons_zero, List.getElem_cons_succ]
        refine wpAnyH_take (i := 24) (v := ?vb21x24) rfl (by kernel_rfl) (by kernel_rfl) (by kernel_rfl) (fun _ _ _ h => h) (Or.inl ⟨by rfl, ?hb21x24⟩) hHeld ?rb21x24
        case hb21x24 => intro w9 hSw; (try dsimp only at hSw); have q0 := cell_later hSw g5; have q1 := cell_later hSw g0; have q2 := cell_later hSw g1; have q3 := cell_later hSw g2; first | (go_simp; done) | (go_simp; with_reducible rfl)
        try simp only [Act.put, List.setIfInBounds_toArray, List.set_cons_zero, List.set_cons_succ, List.getElem_toArray, List.getElem_cons_zero, List.getElem_cons_succ]
        refine wpAnyH_take (i := 25) (v := ?vb22x25) rfl (by kernel_rfl) (by kernel_rfl) (by kernel_rfl) (fun _ _ _ h => h) (Or.inl ⟨by rfl, ?hb22x25⟩) hHeld ?rb22x25
        case hb22x25 => intro w9 hSw; (try dsimp only at hSw); have q0 := cell_later hSw g5; have q1 := cell_later hSw g0; have q2 := cell_later hSw g1; have q3 := cell_later hSw g2; first | (go_simp; done) | (go_simp; with_reducible rfl)
        try simp only [Act.put, List.setIfInBounds_toArray, List.set_cons_zero, List.set_cons_succ, List.getElem_toArray, List.getElem_cons_zero, List.getElem_cons_succ]
        refine wpAnyH_take (i := 26) (v := ?vb23x26) rfl (by kernel_rfl) (by kernel_rfl) (by kernel_rfl) (fun _ _ _ h => h) (Or.inl ⟨by rfl, ?hb23x26⟩) hHeld ?rb23x26
        case hb23x26 => intro w9 hSw; (try dsimp only at hSw); have q0 := cell_later hSw g5; have q1 := cell_later hSw g0; have q2 := cell_later hSw g1; have q3 := cell_later hSw g2; first | (go_simp; done) | (go_simp; with_reducible rfl)
        try simp only [Act.put, List.setIfInBounds_toArray, List.set_cons_zero, List.set_cons_succ, List.getElem_toArray, List.getElem_cons_zero, List.getElem_cons_succ]
        refine wpAnyH_take (i := 27) (v := ?vb24x27) rfl (by kernel_rfl) (by kernel_rfl) (by kernel_rfl) (fun _ _ _ h => h) (Or.inl ⟨by rfl, ?hb24x27⟩) hHeld ?rb24x27
        case hb24x27 => intro w9 hSw; (try dsimp only at hSw); have q0 := cell_later hSw g5; have q1 := cell_later hSw g0; have q2 := cell_later hSw g1; have q3 := cell_later hSw g2; first | (go_simp; done) | (go_simp; with_reducible rfl)
        try simp only [Act.put, List.setIfInBounds_toArray, List.set_cons_zero, List.set_cons_succ, List.getElem_toArray, List.getElem_cons_zero, List.getElem_cons_succ]
        refine wpAnyH_take (i := 28) (v := ?vb25x28) rfl (by kernel_rfl) (by kernel_rfl) (by kernel_rfl) (fun _ _ _ h => h) (Or.inl ⟨by rfl, ?hb25x28⟩) hHeld ?rb25x28
        case hb25x28 => intro w9 hSw; (try dsimp only at hSw); have q0 := cell_later hSw g5; have q1 := cell_later hSw g0; have q2 := cell_later hSw g1; have q3 := cell_later hSw g2; first | (go_simp; done) | (go_simp; with_reducible rfl)
        try simp only [Act.put, List.setIfInBounds_toArray, List.set_cons_zero, List.set_cons_succ, List.getElem_toArray, List.getElem_cons_zero, List.getElem_cons_succ]
        refine wpAnyH_ready (rs := [17]) (by kernel_rfl) (by simp) (AllReadyH.cons rfl (fun K hK => ?_) AllReadyH.nil)
        go_simp
        refine hK.out _ _ (below_on hHeld (below_alloc wr0 (.cells #[.int .i64 x, .int .i64 t] 2))) (fun hHeldx => ?_)
        clear hK K
        try simp only [Act.put, List.setIfInBounds_toArray, List.set_cons_zero, List.set_cons_succ, List.getElem_toArray, List.getElem_cons_zero, List.getElem_cons_succ]
        refine forgetH (fun wx => Below wr.heap.size wr wx ∧ RdI (fun _ => True) wx (.slice (some ⟨wr0.heap.size, 0, none⟩) 2 2) [x, t]) ⟨hHeldx, rdI_new2 wr0 _ _ _⟩ ?_
        clear hHeldx
        rintro wr26 ⟨hHeld26, qX⟩
        have Q26X := hide qX
        clear qX
        refine wpAnyH_ready (rs := [18]) (by kernel_rfl) (by simp) (AllReadyH.cons rfl (fun K hK => ?_) AllReadyH.nil)
        go_simp
        go_at_call 54
        refine (H1.out wr26 _ Q26X.out).mono ?_
        rintro e wr27 ⟨rfl, hb⟩
        refine hK.out _ _ (below_on hHeld26 hb) (fun hHeld27 => ?_)
        clear hK K
        try simp only [Act.put, List.setIfInBounds_toArray, List.set_cons_zero, List.set_cons_succ, List.getElem_toArray, List.getElem_cons_zero, List.getElem_cons_succ]
        have Q27X := hide (Q26X.out.later hb)
        clear hb
        refine wpAnyH_take (i := 19) (v := ?vb28x19) rfl (by kernel_rfl) (by kernel_rfl) (by kernel_rfl) (fun _ _ _ h => h) (Or.inl ⟨by rfl, ?hb28x19⟩) hHeld27 ?rb28x19
        case hb28x19 => intro w9 hSw; (try dsimp only at hSw); have q0 := cell_later hSw g5; have q1 := cell_later hSw g0; have q2 := cell_later hSw g1; have q3 := cell_later hSw g2; first | (go_simp; done) | (go_simp; with_reducible rfl)
        try simp only [Act.put, List.setIfInBounds_toArray, List.set_cons_zero, List.set_cons_succ, List.getElem_toArray, List.getElem_cons_zero, List.getElem_cons_succ]
        refine wpAnyH_take (i := 20) (v := ?vb29x20) rfl (by kernel_rfl) (by kernel_rfl) (by kernel_rfl) (fun _ _ _ h => h) (Or.inl ⟨by rfl, ?hb29x20⟩) hHeld27 ?rb29x20
        case hb29x20 => intro w9 hSw; (try dsimp only at hSw); have q0 := cell_later hSw g5; have q1 := cell_later hSw g0; have q2 := cell_later hSw g1; have q3 := cell_later hSw g2; first | (go_simp; done) | (go_simp; with_reducible rfl)
        try simp only [Act.put, List.setIfInBounds_toArray, List.set_cons_zero, List.set_cons_succ, List.getElem_toArray, List.getElem_cons_zero, List.getElem_cons_succ]
        refine wpAnyH_ready (rs := [29]) (by kernel_rfl) (by simp) (AllReadyH.cons rfl (fun K hK => ?_) AllReadyH.nil)
        go_simp
        go_at_call 55
        refine (H2.out wr27 hHeld27).mono ?_
        rintro e wr30 ⟨rfl, hb⟩
        refine hK.out _ _ (below_on hHeld27 hb) (fun hHeld30 => ?_)
        clear hK K
        try simp only [Act.put, List.setIfInBounds_toArray, List.set_cons_zero, List.set_cons_succ, List.getElem_toArray, List.getElem_cons_zero, List.getElem_cons_succ]
        have Q30X := hide (Q27X.out.later hb)
        clear hb
        refine wpAnyH_take (i := 30) (v := ?vb31x30) rfl (by kernel_rfl) (by kernel_rfl) (by kernel_rfl) (fun _ _ _ h => h) (Or.inl ⟨by rfl, ?hb31x30⟩) hHeld30 ?rb31x30
        case hb31x30 => intro w9 hSw; (try dsimp only at hSw); have q0 := cell_later hSw g5; have q1 := cell_later hSw g0; have q2 := cell_later hSw g1; have q3 := cell_later hSw g2; first | (go_simp; done) | (go_simp; with_reducible rfl)
        try simp only [Act.put, List.setIfInBounds_toArray, List.set_cons_zero, List.set_cons_succ, List.getElem_toArray, List.getElem_cons_zero, List.getElem_cons_succ]
        refine wpAnyH_take (i := 31) (v := ?vb32x31) rfl (by kernel_rfl) (by kernel_rfl) (by kernel_rfl) (fun _ _ _ h => h) (Or.inl ⟨by rfl, ?hb32x31⟩) hHeld30 ?rb32x31
        case hb32x31 => intro w9 hSw; (try dsimp only at hSw); have q0 := cell_later hSw g5; have q1 := cell_later hSw g0; have q2 := cell_later hSw g1; have q3 := cell_later hSw g2; first | (go_simp; done) | (go_simp; with_reducible rfl)
        try simp only [Act.put, List.setIfInBounds_toArray, List.set_cons_zero, List.set_cons_succ, List.getElem_toArray, List.getElem_cons_zero, List.getElem_cons_succ]
        refine wpAnyH_take (i := 32) (v := ?vb33x32) rfl (by kernel_rfl) (by kernel_rfl) (by kernel_rfl) (fun _ _ _ h => h) (Or.inl ⟨by rfl, ?hb33x32⟩) hHeld30 ?rb33x32
        case hb33x32 => intro w9 hSw; (try dsimp only at hSw); have q0 := cell_later hSw g5; have q1 := cell_later hSw g0; have q2 := cell_later hSw g1; have q3 := cell_later hSw g2; first | (go_simp; done) | (go_simp; with_reducible rfl)
        try simp only [Act.put, List.setIfInBounds_toArray, List.set_cons_zero, List.set_cons_succ, List.getElem_toArray, List.getElem_cons_zero, List.getElem_cons_succ]
        refine wpAnyH_done (by kernel_rfl) ?_ _
        have HB1 := hide (below_on HB.out hHeld30)
        go_wp2
        go_roundw
        case rel => exact ⟨k + 1, T4, by omega, by go_num, rfl, HT2, HB1⟩
        case measure => simp [intOf]; omega
      · have hkn : k = n := by omega
        subst hkn
        have hT : T = raftT r := by rw [HT.out, raftT, List.take_of_length_le (by rw [HN.out]; exact Nat.le_refl _)]
        subst hT
        go_wp2
        go_ret
        exact ⟨rfl, HB.out⟩
end Go.Proofs.YtcbapclpopbjbaaDoor
