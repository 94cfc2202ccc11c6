/- Ps1 Sn2 Df2 Vw ApplyN in one text: what each says stands at its head below. -/
import Derived.Test.YtlmaopljihbdkaaGreatG35
import Derived.Test.YtlmaopljihbdkaaGreatG17
import Derived.Shelf.SlSortCmp.KitK
import Derived.Test.YtlmaopljihbdkaaGreatG32
import Derived.Test.YtlmaopljihbdkaaGreatG34
import Derived.Test.YtlmaopljihbdkaaGreatG28
namespace Go.Proofs.YtlmaopljihbdkaaGreat
open Go.RowKit Go.Maps Go.Shelf Go.Sort
end Go.Proofs.YtlmaopljihbdkaaGreat
namespace Go.Proofs.YtlmaopljihbdkaaGreat
open Go.RowKit Go.Shelf
end Go.Proofs.YtlmaopljihbdkaaGreat
namespace Go.Proofs.YtlmaopljihbdkaaGreat
open Go.RowKit Go.Maps Go.Shelf
attribute [local go_sem] Oper.semAt_some
theorem vF_zero {vs : List (Int × List Int)} (h : vF vs = 0) : hpF 60 vs = 0 := by
  unfold vF at h
  by_cases h0 : hpF 60 vs = 0
  · exact h0
  · rw [if_neg h0] at h; exact absurd h h0
end Go.Proofs.YtlmaopljihbdkaaGreat
namespace Go.Proofs.YtlmaopljihbdkaaGreat
open Go.RowKit Go.Maps
def vwL (xss : List (List Int)) (ps : List (Int × List Int)) : List (Int × List Int) := if inF xss ps = 0 then viewTo ((lgP xss ps).foldl putM (homeM xss ps 40)) 40 else []
set_option maxHeartbeats 2000000 in
set_option maxRecDepth 4000 in
theorem implViewOf {S T : Nat → Prop} {w : World} {u v : Value} {xss : List (List Int)} {ps : List (Int × List Int)} (hu : RdII S w u xss) (hv : RdP T w v ps) (hs : Small xss ps) :
    Calls Tryz.prog 59 #[.agg #[u, v]] w (EndsP (lgF xss ps) (vwL xss ps) w) := by
  unfold EndsP vwL
  obtain ⟨ao, c, rfl, _⟩ := hu.shape
  obtain ⟨ao', c', rfl, _⟩ := hv.shape
  have HLg := hide (fun (w' : World) (hb : Below w.heap.size w w') => implLogOf (hu.later hb) (hv.later hb) hs)
  have HU := hide hu
  have HV := hide hv
  obtain ⟨n, hn⟩ : ∃ n, xss.length = n := ⟨_, rfl⟩
  obtain ⟨m, hm⟩ : ∃ m, ps.length = m := ⟨_, rfl⟩
  have A0 := hide (below_on (below_alloc w (.cells #[.slice ao n c, .slice ao' m c'] 59)) (below_alloc _ (.cells #[.int .i64 0, .slice none 0 0] 29)))
  unfold lgF at HLg ⊢
  by_cases h0 : inF xss ps = 0
  · obtain ⟨h66, hl24, hlg⟩ := lg_facts hs h0
    have HSI := hide (fun (L : Nat → Prop) (w' : World) (z : Value) (hb : Below w.heap.size w w') (hz : RdP L w' z (lgP xss ps)) (hL : ∀ b, L b → b < w'.heap.size) => seenIn (HU.out.later hb) (HV.out.later hb) hs h66 hz hL (fun i hi => (hlg i hi).1) hl24)
    have HLn := hide (fun (a : Int) (h1 : 0 ≤ a) (h2 : a < 40) => rh_len hs h0 h1 h2)
    rw [if_pos h0]
    rw [h0] at HLg
    rw [h0]
    generalize lgP xss ps = lps at HLg HSI HLn hl24 ⊢
    generalize homeM xss ps 40 = M at HSI HLn ⊢
    obtain ⟨l, hl⟩ : ∃ l, lps.length = l := ⟨_, rfl⟩
    have HL := hide hl
    rw [hn, hm] at HLg HSI
    rw [hl] at HSI hl24
    rw [hn, hm]
    clear hu hv hs hn hm HU HV h0 h66 hlg hl
    generalize lps.foldl putM M = M' at HSI HLn ⊢
    obtain ⟨rs, hrs⟩ : ∃ rs, viewTo M' 40 = rs := ⟨_, rfl⟩
    have HRS := hide hrs
    rw [hrs]
    clear hrs
    obtain ⟨lr, hlr⟩ : ∃ lr, rs.length = lr := ⟨_, rfl⟩
    have HLR := hide hlr
    clear hlr
    go_enter Tryz.func59, Tryz.ntmps59
    go_wp2_with fail
    refine (HLg.out _ A0.out).mono ?_
    rintro e w1 ⟨z1, rfl, hb1, ho1⟩
    obtain ⟨a1, k1, hz1⟩ := ho1.shape
    rw [HL.out] at hz1
    subst hz1
    have bR := below_alloc w1 (.cells #[.int .i64 0, .slice a1 l k1] 29)
    have b1R := below_on hb1 bR
    have q0 : w1.cell? ⟨w.heap.size + 1, 0, none⟩ = some (.int .i64 0) := cell_later hb1 (by simp [go_sem])
    have q1 : w1.cell? ⟨w.heap.size + 1, 1, none⟩ = some (.slice none 0 0) := cell_later hb1 (by simp [go_sem])
    have qf : ∀ o, w1.frozen? ⟨w.heap.size + 1, o, none⟩ = false := fun o => ((bcell hb1).2 _ _ (by simp)).trans (by simp [go_sem])
    have d0 : w1.cell? ⟨w.heap.size, 0, none⟩ = some (.slice ao n c) := cell_later hb1 (by simp [go_sem])
    have d1 : w1.cell? ⟨w.heap.size, 1, none⟩ = some (.slice ao' m c') := cell_later hb1 (by simp [go_sem])
    have hlt : w.heap.size + 1 < w1.heap.size := World.block_lt_of_cell? _ _ q0
    have HW : Hid (Below w.heap.size w (w1.alloc (.cells #[.int .i64 0, .slice a1 l k1] 29)) ∧ Var2 (w1.alloc (.cells #[.int .i64 0, .slice a1 l k1] 29)) w.heap.size (.slice ao n c) (.slice ao' m c') ∧ Var2 (w1.alloc (.cells #[.int .i64 0, .slice a1 l k1] 29)) (w.heap.size + 1) (.int .i64 0) (.slice none 0 0) ∧ (∀ o, (w1.alloc (.cells #[.int .i64 0, .slice a1 l k1] 29)).frozen? ⟨w.heap.size + 1, o, none⟩ = false) ∧ Var2 (w1.alloc (.cells #[.int .i64 0, .slice a1 l k1] 29)) w1.heap.size (.int .i64 0) (.slice a1 l k1) ∧ RdP (fun b => b < w1.heap.size) (w1.alloc (.cells #[.int .i64 0, .slice a1 l k1] 29)) (.slice a1 l k1) lps ∧ w1.heap.size < (w1.alloc (.cells #[.int .i64 0, .slice a1 l k1] 29)).heap.size) :=
      ⟨below_on A0.out b1R, ⟨cell_later bR d0, cell_later bR d1⟩, ⟨cell_later bR q0, cell_later bR q1⟩, fun o => ((bcell bR).2 _ _ hlt).trans (qf o), Var2_new _ _ _ _, (RdP_narrow ho1.rd (fun b hb => hb.2)).later bR, by simp⟩
    clear hb1 ho1 bR b1R q0 q1 qf d0 d1 HLg A0
    go_upto_region 4 with fail
    refine forget (fun wx => Below w.heap.size w wx ∧ Var2 wx w.heap.size (.slice ao n c) (.slice ao' m c') ∧ Var2 wx (w.heap.size + 1) (.int .i64 0) (.slice none 0 0) ∧ (∀ o, wx.frozen? ⟨w.heap.size + 1, o, none⟩ = false) ∧ Var2 wx w1.heap.size (.int .i64 0) (.slice a1 l k1) ∧ RdP (fun b => b < w1.heap.size) wx (.slice a1 l k1) lps ∧ w1.heap.size < wx.heap.size) HW.out ?_
    obtain ⟨H, hH⟩ : ∃ H, w1.heap.size = H := ⟨_, rfl⟩
    rw [hH] at hlt ⊢
    clear HW hH
    rintro V ⟨hbV, ⟨d0, d1⟩, ⟨q0, q1⟩, qf, ⟨r0, r1⟩, hR, hHl⟩
    have HBV := hide hbV
    have HQ0 := hide q0
    have HQ1 := hide q1
    have HQf := hide qf
    have HSn := hide (HSI.out _ V _ hbV hR (fun b hb => by omega))
    clear hbV q0 q1 qf hR
    go_wp2_with fail
    refine HSn.out.mono ?_
    rintro e w3 ⟨B, rfl, hB, hb3, hs3⟩
    have HVi := hide (seenView hs3 (by omega) HLn.out)
    rw [HRS.out] at HVi
    have HB3 := hide hb3
    clear hs3 hb3
    go_wp2_with fail
    refine HVi.out.mono ?_
    rintro e w4 ⟨z4, rfl, hb4, ho4⟩
    obtain ⟨a4, k4, hz4⟩ := ho4.shape
    rw [HLR.out] at hz4
    subst hz4
    have hb34 := below_on HB3.out hb4
    have v0 := cell_later hb34 HQ0.out
    have v1 := cell_later hb34 HQ1.out
    have hq5 : w.heap.size + 1 < V.heap.size := by omega
    have f0 := ((bcell hb34).2 _ _ hq5).trans (HQf.out 0)
    have f1 := ((bcell hb34).2 _ _ hq5).trans (HQf.out 1)
    have HFin := hide (ret_puts (x := .int .i64 0) (below_on HBV.out hb34) (r := w.heap.size + 1) (by omega) ho4 (fun b hb => ⟨by have := hb.1; have := HB3.out.size; omega, hb.2⟩))
    clear hb4 ho4 hb34
    go_wp2
    exact bodyPost_ret (v := .agg #[.int .i64 0, .slice a4 lr k4]) (by simp [results, Tryz.results59, go_sem, v0, v1]) rfl ⟨_, rfl, HFin.out.1, HFin.out.2⟩
  · rw [if_neg h0]
    rw [hn, hm] at HLg
    rw [hn, hm]
    clear hu hv hs hn hm HU HV
    generalize lgP xss ps = lps at HLg
    generalize inF xss ps = z at HLg h0 ⊢
    obtain ⟨l, hl⟩ : ∃ l, lps.length = l := ⟨_, rfl⟩
    have HL := hide hl
    clear hl
    go_enter Tryz.func59, Tryz.ntmps59
    go_wp2_with fail
    refine (HLg.out _ A0.out).mono ?_
    rintro e w1 ⟨z1, rfl, hb1, ho1⟩
    obtain ⟨a1, k1, hz1⟩ := ho1.shape
    rw [HL.out] at hz1
    subst hz1
    have q0 : w1.cell? ⟨w.heap.size + 1, 0, none⟩ = some (.int .i64 0) := cell_later hb1 (by simp [go_sem])
    have q1 : w1.cell? ⟨w.heap.size + 1, 1, none⟩ = some (.slice none 0 0) := cell_later hb1 (by simp [go_sem])
    have f0 : w1.frozen? ⟨w.heap.size + 1, 0, none⟩ = false := ((bcell hb1).2 _ _ (by simp)).trans (by simp [go_sem])
    have f1 : w1.frozen? ⟨w.heap.size + 1, 1, none⟩ = false := ((bcell hb1).2 _ _ (by simp)).trans (by simp [go_sem])
    have hlt : w.heap.size + 1 < w1.heap.size := World.block_lt_of_cell? _ _ q0
    have HB := hide (below_on A0.out hb1)
    clear hb1 ho1
    go_wp2
    have BA := below_alloc ((w1.setCell ⟨w.heap.size + 1, 0, none⟩ (.int .i64 z)).setCell ⟨w.heap.size + 1, 1, none⟩ (.slice none 0 0)) (.cells #[.int .i64 z, .slice a1 l k1] 29)
    have m0 := cell_later BA (a := ⟨w.heap.size + 1, 0, none⟩) (v := .int .i64 z) (by simp [go_sem, q0])
    have m1 := cell_later BA (a := ⟨w.heap.size + 1, 1, none⟩) (v := .slice none 0 0) (by simp [go_sem, q1])
    exact bodyPost_ret (v := .agg #[.int .i64 z, .slice none 0 0]) (by simp [results, Tryz.results59, go_sem, m0, m1]) rfl ⟨_, rfl, ((HB.out.setCell (by simp) _).setCell (by simp) _).trans (BA.mono (by simp; omega)), OwP_nil _ _⟩
end Go.Proofs.YtlmaopljihbdkaaGreat
namespace Go.Proofs.YtlmaopljihbdkaaGreat
def dnB (p : Int × List Int) (L : List (Int × List Int)) : Nat → Bool
  | 0 => decide (p.2 = [])
  | k + 1 => dnB p L k || decide (p.1 ≤ (L.getD k (0, [])).1)
def insP (p : Int × List Int) (L : List (Int × List Int)) : Nat → List (Int × List Int)
  | 0 => []
  | k + 1 => (insP p L k ++ if dnB p L k = false ∧ p.1 ≤ (L.getD k (0, [])).1 then [p] else []) ++ if (L.getD k (0, [])).1 = p.1 then [] else [L.getD k (0, [])]
def insF (p : Int × List Int) (L : List (Int × List Int)) : List (Int × List Int) := insP p L L.length ++ if dnB p L L.length = false then [p] else []
theorem dnB_iff (p : Int × List Int) (L : List (Int × List Int)) : ∀ k, dnB p L k = true ↔ p.2 = [] ∨ ∃ j, j < k ∧ p.1 ≤ (L.getD j (0, [])).1
  | 0 => by simp [dnB]
  | k + 1 => by
    rw [dnB, Bool.or_eq_true, dnB_iff p L k, decide_eq_true_eq]
    constructor
    · rintro ((h | ⟨j, h1, h2⟩) | h)
      · exact Or.inl h
      · exact Or.inr ⟨j, by omega, h2⟩
      · exact Or.inr ⟨k, by omega, h⟩
    · rintro (h | ⟨j, h1, h2⟩)
      · exact Or.inl (Or.inl h)
      · by_cases e : j = k
        · subst e; exact Or.inr h2
        · exact Or.inl (Or.inr ⟨j, by omega, h2⟩)
theorem insP_all {p : Int × List Int} {L : List (Int × List Int)} (hL : L.Pairwise fun a b => a.1 < b.1) : ∀ k, k ≤ L.length →
    ((insP p L k).Pairwise fun a b => a.1 < b.1) ∧ ∀ x, x ∈ insP p L k ↔ ((∃ j, j < k ∧ x = L.getD j (0, []) ∧ x.1 ≠ p.1) ∨ (x = p ∧ p.2 ≠ [] ∧ dnB p L k = true)) := by
  have hlt : ∀ i j, i < j → j < L.length → (L.getD i (0, [])).1 < (L.getD j (0, [])).1 := fun i j hij hj => by
    have := List.pairwise_iff_getElem.1 hL i j (by omega) hj hij
    simpa [List.getD, hj, show i < L.length by omega] using this
  intro k
  induction k with
  | zero =>
    intro _
    refine ⟨List.Pairwise.nil, fun x => ⟨fun h => by simp [insP] at h, fun h => ?_⟩⟩
    rcases h with ⟨j, h, _⟩ | ⟨_, h1, h2⟩
    · omega
    · rw [dnB, decide_eq_true_eq] at h2
      exact absurd h2 h1
  | succ k ih =>
    intro hk
    obtain ⟨h1, h2⟩ := ih (by omega)
    obtain ⟨q, hq⟩ : ∃ q, L.getD k (0, []) = q := ⟨_, rfl⟩
    have hdn := dnB_iff p L k
    have hmid : ((insP p L k ++ if dnB p L k = false ∧ p.1 ≤ q.1 then [p] else []).Pairwise fun a b => a.1 < b.1) ∧
        ∀ x, x ∈ (insP p L k ++ if dnB p L k = false ∧ p.1 ≤ q.1 then [p] else []) ↔ ((∃ j, j < k ∧ x = L.getD j (0, []) ∧ x.1 ≠ p.1) ∨ (x = p ∧ p.2 ≠ [] ∧ dnB p L (k + 1) = true)) := by
      by_cases hc : dnB p L k = false ∧ p.1 ≤ q.1
      · rw [if_pos hc]
        have hno : ¬ (p.2 = [] ∨ ∃ j, j < k ∧ p.1 ≤ (L.getD j (0, [])).1) := fun h => by rw [hdn.2 h] at hc; exact absurd hc.1 (by decide)
        refine ⟨List.pairwise_append.2 ⟨h1, by simp, fun a ha b hb => ?_⟩, fun x => ?_⟩
        · simp at hb
          subst hb
          rcases (h2 a).1 ha with ⟨j, hj, rfl, _⟩ | ⟨_, _, h⟩
          · by_cases e : (L.getD j (0, [])).1 < b.1
            · exact e
            · exact absurd (Or.inr ⟨j, hj, by omega⟩) hno
          · rw [hc.1] at h; exact absurd h (by decide)
        · rw [List.mem_append, h2 x, hc.1]
          have hd1 : dnB p L (k + 1) = true := by rw [dnB, hq]; simp [hc.2]
          rw [hd1]
          constructor
          · rintro ((h | ⟨_, _, h⟩) | h)
            · exact Or.inl h
            · exact absurd h (by decide)
            · exact Or.inr ⟨by simpa using h, fun e => hno (Or.inl e), rfl⟩
          · rintro (h | ⟨h, _⟩)
            · exact Or.inl (Or.inl h)
            · exact Or.inr (by simpa using h)
      · rw [if_neg hc, List.append_nil]
        refine ⟨h1, fun x => ?_⟩
        rw [h2 x]
        have hd1 : dnB p L (k + 1) = dnB p L k := by
          rw [dnB, hq]
          cases hb : dnB p L k
          · have : ¬ p.1 ≤ q.1 := fun h => hc ⟨hb, h⟩
            simp [this]
          · rfl
        rw [hd1]
    obtain ⟨m1, m2⟩ := hmid
    rw [insP, hq]
    by_cases he : q.1 = p.1
    · rw [if_pos he, List.append_nil]
      refine ⟨m1, fun x => ?_⟩
      rw [m2 x]
      constructor
      · rintro (⟨j, a, b⟩ | h)
        · exact Or.inl ⟨j, by omega, b⟩
        · exact Or.inr h
      · rintro (⟨j, a, b, c⟩ | h)
        · by_cases e : j = k
          · subst e; rw [b, hq] at c; exact absurd he c
          · exact Or.inl ⟨j, by omega, b, c⟩
        · exact Or.inr h
    · rw [if_neg he]
      refine ⟨List.pairwise_append.2 ⟨m1, by simp, fun a ha b hb => ?_⟩, fun x => ?_⟩
      · simp at hb
        subst hb
        rcases (m2 a).1 ha with ⟨j, hj, rfl, _⟩ | ⟨rfl, hpn, hd⟩
        · have := hlt j k hj (by omega); rw [hq] at this; exact this
        · rcases (dnB_iff a L (k + 1)).1 hd with h | ⟨j, hj, hle⟩
          · exact absurd h hpn
          · by_cases e : j = k
            · subst e; rw [hq] at hle; omega
            · have := hlt j k (by omega) (by omega); rw [hq] at this; omega
      · rw [List.mem_append, m2 x]
        constructor
        · rintro ((⟨j, a, b⟩ | h) | h)
          · exact Or.inl ⟨j, by omega, b⟩
          · exact Or.inr h
          · have hx : x = q := by simpa using h
            exact Or.inl ⟨k, by omega, by rw [hq]; exact hx, by rw [hx]; exact he⟩
        · rintro (⟨j, a, b, c⟩ | h)
          · by_cases e : j = k
            · subst e; rw [hq] at b; exact Or.inr (by simp [b])
            · exact Or.inl (Or.inl ⟨j, by omega, b, c⟩)
          · exact Or.inl (Or.inr h)
theorem insF_view (M : Int → List Int) (p : Int × List Int) (h0 : 0 ≤ p.1) (h1 : p.1 < 40) : insF p (viewTo M 40) = viewTo (putM M p) 40 := by
  obtain ⟨L, hL⟩ : ∃ L, viewTo M 40 = L := ⟨_, rfl⟩
  have hp : L.Pairwise fun a b => a.1 < b.1 := by rw [← hL]; exact view_lt _ _
  have hm : ∀ x, x ∈ L ↔ 0 ≤ x.1 ∧ x.1 < 40 ∧ x.2 ≠ [] ∧ x.2 = M x.1 := fun x => by rw [← hL]; exact view_mem _ _ _
  obtain ⟨k1, k2⟩ := insP_all (p := p) hp L.length (Nat.le_refl _)
  have hgm : ∀ x, (∃ j, j < L.length ∧ x = L.getD j (0, []) ∧ x.1 ≠ p.1) ↔ x ∈ L ∧ x.1 ≠ p.1 := fun x => by
    constructor
    · rintro ⟨j, hj, rfl, hn⟩
      exact ⟨by simp [List.getD, hj], hn⟩
    · rintro ⟨hx, hn⟩
      obtain ⟨j, hj, rfl⟩ := List.getElem_of_mem hx
      exact ⟨j, hj, by simp [List.getD, hj], hn⟩
  rw [hL]
  refine rising_eq ?_ (view_lt _ _) fun x => ?_
  · unfold insF
    by_cases hd : dnB p L L.length = false
    · rw [if_pos hd]
      refine List.pairwise_append.2 ⟨k1, by simp, fun a ha b hb => ?_⟩
      simp at hb
      subst hb
      rcases (k2 a).1 ha with ⟨j, hj, rfl, _⟩ | ⟨_, _, h⟩
      · by_cases e : (L.getD j (0, [])).1 < b.1
        · exact e
        · have : dnB b L L.length = true := (dnB_iff b L _).2 (Or.inr ⟨j, hj, by omega⟩)
          rw [hd] at this
          exact absurd this (by decide)
      · rw [hd] at h; exact absurd h (by decide)
    · rw [if_neg hd, List.append_nil]; exact k1
  · have hfin : x ∈ insF p L ↔ (x ∈ L ∧ x.1 ≠ p.1) ∨ (x = p ∧ p.2 ≠ []) := by
      unfold insF
      rw [List.mem_append, k2 x, hgm x]
      cases hd : dnB p L L.length
      · have hpn : p.2 ≠ [] := fun h => by rw [(dnB_iff p L _).2 (Or.inl h)] at hd; exact absurd hd (by decide)
        constructor
        · rintro ((h | ⟨_, _, h⟩) | h)
          · exact Or.inl h
          · exact absurd h (by decide)
          · exact Or.inr ⟨by simpa using h, hpn⟩
        · rintro (h | ⟨h, _⟩)
          · exact Or.inl (Or.inl h)
          · exact Or.inr (by simpa using h)
      · constructor
        · rintro ((h | ⟨h, hn, _⟩) | h)
          · exact Or.inl h
          · exact Or.inr ⟨h, hn⟩
          · simp at h
        · rintro (h | ⟨h, hn⟩)
          · exact Or.inl (Or.inl h)
          · exact Or.inl (Or.inr ⟨h, hn, rfl⟩)
    rw [hfin, view_mem, hm x]
    unfold putM
    by_cases e : x.1 = p.1
    · rw [if_pos e]
      constructor
      · rintro (⟨_, h⟩ | ⟨rfl, hn⟩)
        · exact absurd e h
        · exact ⟨h0, h1, hn, rfl⟩
      · rintro ⟨_, _, a, b⟩
        exact Or.inr ⟨Prod.ext e b, by rw [← b]; exact a⟩
    · rw [if_neg e]
      constructor
      · rintro (⟨⟨a, b, c, d⟩, _⟩ | ⟨rfl, _⟩)
        · exact ⟨a, b, c, d⟩
        · exact absurd rfl e
      · rintro ⟨a, b, c, d⟩
        exact Or.inl ⟨⟨a, b, c, d⟩, e⟩
end Go.Proofs.YtlmaopljihbdkaaGreat
