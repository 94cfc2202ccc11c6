/- Kp MathHd2 Same in one text: what each says stands at its head below. -/
import Derived.Test.YtncgpfapepminaaDoorG13
import Derived.Test.YtncgpfapepminaaDoorG15
import Derived.Test.YtncgpfapepminaaDoorG16
import Derived.Deep.RegionHeld3
import Derived.Test.YtncgpfapepminaaDoorG17
import Derived.Test.YtncgpfapepminaaDoorG03
/- Chapter 15: KeptOf, of the program and of the model. Made by program (genkp.py). -/
namespace Go.Proofs.YtncgpfapepminaaDoor
open Go.RowKit

/-- What KeptOf answers. -/
noncomputable def keptB (r s : Rf) : Bool := @decide (rfF r = 0 ∧ rfF s = 0 ∧ ¬ OverH r.tm r.vt s.tm s.vt ∧ r.si ≤ s.si) (Classical.propDecidable _)
theorem kept_bad {r s : Rf} (h : rfF r ≠ 0) : false = keptB r s := by unfold keptB; exact (@decide_eq_false _ (Classical.propDecidable _) (fun q => h q.1)).symm
theorem kept_bad2 {r s : Rf} (h : rfF s ≠ 0) : false = keptB r s := by unfold keptB; exact (@decide_eq_false _ (Classical.propDecidable _) (fun q => h q.2.1)).symm
theorem kept_over {r s : Rf} (h : OverH r.tm r.vt s.tm s.vt) : false = keptB r s := by unfold keptB; exact (@decide_eq_false _ (Classical.propDecidable _) (fun q => q.2.2.1 h)).symm
theorem kept_snap {r s : Rf} (h : ¬ r.si ≤ s.si) : false = keptB r s := by unfold keptB; exact (@decide_eq_false _ (Classical.propDecidable _) (fun q => h q.2.2.2)).symm
theorem kept_ok {r s : Rf} (h0 : rfF r = 0) (h1 : rfF s = 0) (h : ¬ OverH r.tm r.vt s.tm s.vt) (h2 : r.si ≤ s.si) : true = keptB r s := by unfold keptB; exact (@decide_eq_true _ (Classical.propDecidable _) ⟨h0, h1, h, h2⟩).symm

theorem run_eq_iface_nilK {P : Program} (w : World) {ti : TypeId} {ms : Array (String × TypeId)} (tp : TypeId) (v : Value) (hi : P.underlying ti = some (.interface ms)) :
    (binOp .eql ti (.iface tp v) .nilIface).run P w = .ok (.bool false) w := by
  have h : ∀ d : Nat, (Op.equalIn (d + 1) ti (.iface tp v) .nilIface).run P w = .ok false w := fun d => by simp [Op.equalIn, run_underlying hi]
  simp only [binOp]
  simp [Op.equal, Op.maxDepth, h 9999]
theorem run_eq_nil_nilK {P : Program} (w : World) {ti : TypeId} {ms : Array (String × TypeId)} (hi : P.underlying ti = some (.interface ms)) :
    (binOp .eql ti .nilIface .nilIface).run P w = .ok (.bool true) w := by
  have h : ∀ d : Nat, (Op.equalIn (d + 1) ti .nilIface .nilIface).run P w = .ok true w := fun d => by simp [Op.equalIn, run_underlying hi]
  simp only [binOp]
  simp [Op.equal, Op.maxDepth, h 9999]

set_option maxHeartbeats 8000000 in
set_option maxRecDepth 4000 in
theorem implKeptOf {S T S' T' : Nat → Prop} {w : World} {yr zr ys zs : Value} (r s : Rf) (hyr : RdI S w yr r.sn) (hzr : RdJ T w zr r.lg) (hys : RdI S' w ys s.sn) (hzs : RdJ T' w zs s.lg) :
    Calls Tryd.prog 11 #[.agg #[.int .i64 r.tm, .int .i64 r.vt, .int .i64 r.si, .int .i64 r.st, yr, zr], .agg #[.int .i64 s.tm, .int .i64 s.vt, .int .i64 s.si, .int .i64 s.st, ys, zs]] w fun e w' => e = .returned (.bool (keptB r s)) ∧ Below w.heap.size w w' := by
  obtain ⟨ayr, cyr, rfl⟩ := hyr.shape
  obtain ⟨azr, czr, rfl, _⟩ := hzr.shape
  obtain ⟨ays, cys, rfl⟩ := hys.shape
  obtain ⟨azs, czs, rfl, _⟩ := hzs.shape
  have H1 := hide (fun (w' : World) (hb : Below w.heap.size w w') => implRaftFault r (hyr.later hb) (hzr.later hb))
  have H2 := hide (fun (w' : World) (hb : Below w.heap.size w w') => implRaftFault s (hys.later hb) (hzs.later hb))
  have K1 := hide (@kept_bad r s)
  have K2 := hide (@kept_bad2 r s)
  have K3 := hide (@kept_over r s)
  have K4 := hide (@kept_snap r s)
  have K5 := hide (@kept_ok r s)
  have KR := hide (fun h => (rfF_iff (r := r)).1 h)
  obtain ⟨Z, hZ⟩ : ∃ Z, keptB r s = Z := ⟨_, rfl⟩
  rw [hZ] at K1 K2 K3 K4 K5 ⊢
  clear hZ
  have HT : Hid (rfF r = 0 → 0 ≤ r.tm ∧ r.tm ≤ 999) := fun h => (KR.out h).rg.1.1
  obtain ⟨f, hf⟩ : ∃ f, rfF r = f := ⟨_, rfl⟩
  obtain ⟨g, hg⟩ : ∃ g, rfF s = g := ⟨_, rfl⟩
  rw [hf] at H1 K1 K5 HT
  rw [hg] at H2 K2 K5
  clear hyr hzr hys hzs KR hf
  clear hg
  generalize r.sn.length = lr at *
  generalize r.lg.length = mr at *
  generalize r.tm = a at *
  generalize r.vt = b at *
  generalize r.si = c at *
  generalize r.st = d at *
  generalize s.sn.length = ls at *
  generalize s.lg.length = ms at *
  generalize s.tm = a' at *
  generalize s.vt = b' at *
  generalize s.si = c' at *
  generalize s.st = d' at *
  have BA := hide (below_on (below_alloc w (.cells #[.int .i64 a, .int .i64 b, .int .i64 c, .int .i64 d, .slice ayr lr cyr, .slice azr mr czr] 27)) (below_alloc _ (.cells #[.int .i64 a', .int .i64 b', .int .i64 c', .int .i64 d', .slice ays ls cys, .slice azs ms czs] 27)))
  have VA := hide ((Var6_new w (.int .i64 a) (.int .i64 b) (.int .i64 c) (.int .i64 d) (.slice ayr lr cyr) (.slice azr mr czr) 27).later (below_alloc _ (.cells #[.int .i64 a', .int .i64 b', .int .i64 c', .int .i64 d', .slice ays ls cys, .slice azs ms czs] 27)))
  have h1 := Var6_new (w.alloc (.cells #[.int .i64 a, .int .i64 b, .int .i64 c, .int .i64 d, .slice ayr lr cyr, .slice azr mr czr] 27)) (.int .i64 a') (.int .i64 b') (.int .i64 c') (.int .i64 d') (.slice ays ls cys) (.slice azs ms czs) 27
  simp only [World.size_alloc] at h1
  have VB := hide h1
  clear h1
  obtain ⟨W, hW⟩ : ∃ W, (w.alloc (.cells #[.int .i64 a, .int .i64 b, .int .i64 c, .int .i64 d, .slice ayr lr cyr, .slice azr mr czr] 27)).alloc (.cells #[.int .i64 a', .int .i64 b', .int .i64 c', .int .i64 d', .slice ays ls cys, .slice azs ms czs] 27) = W := ⟨_, rfl⟩
  rw [hW] at BA VA VB
  by_cases q0 : f = 0
  · subst q0
    obtain ⟨t0, t1⟩ := HT.out rfl
    obtain ⟨c0, c1, c2, c3, c4, c5⟩ := VA.out
    obtain ⟨p0, p1, p2, p3, p4, p5⟩ := VB.out
    go_enter Tryd.func11, Tryd.ntmps11
    go_wp2_with fail
    (try rw [hW])
    clear hW
    refine (H1.out _ BA.out).mono ?_
    rintro e w1 ⟨rfl, hb⟩
    have B1 := hide (below_on BA.out hb)
    have A1 := hide (VA.out.later hb)
    have Q1 := hide (VB.out.later hb)
    clear hb c0 c1 c2 c3 c4 c5 p0 p1 p2 p3 p4 p5
    by_cases q1 : g = 0
    · subst q1
      obtain ⟨c0, c1, c2, c3, c4, c5⟩ := A1.out
      obtain ⟨p0, p1, p2, p3, p4, p5⟩ := Q1.out
      go_wp2_with fail
      refine (H2.out _ B1.out).mono ?_
      rintro e w2 ⟨rfl, hb⟩
      have B2 := hide (below_on B1.out hb)
      have A2 := hide (A1.out.later hb)
      have Q2 := hide (Q1.out.later hb)
      clear hb c0 c1 c2 c3 c4 c5 p0 p1 p2 p3 p4 p5
      obtain ⟨c0, c1, c2, c3, c4, c5⟩ := A2.out
      obtain ⟨p0, p1, p2, p3, p4, p5⟩ := Q2.out
      have HV := hide (fun (w' : World) => hardOverI a b c d a' b' ayr azr lr cyr mr czr t0 t1 w')
      by_cases qo : OverH a b a' b'
      · have HE := hide (K3.out qo)
        go_wp2_with fail
        refine (HV.out _).mono ?_
        rintro e w3 ⟨h1, h2, hb⟩
        have B3 := hide (below_on B2.out hb)
        obtain ⟨x, rfl⟩ := h1 qo
        have hne := run_eq_iface_nilK (P := Tryd.prog) w3 104 (.agg #[.int .i64 x]) Tryd.underlying59
        have A3 := hide (A2.out.later hb)
        have Q3 := hide (Q2.out.later hb)
        clear hb h1 h2 A2 Q2 B2 qo c0 c1 c2 c3 c4 c5 p0 p1 p2 p3 p4 p5
        obtain ⟨c0, c1, c2, c3, c4, c5⟩ := A3.out
        obtain ⟨p0, p1, p2, p3, p4, p5⟩ := Q3.out
        go_wp2
        go_ret
        exact ⟨by rw [← HE.out]; rfl, B3.out⟩
      · by_cases qs : c ≤ c'
        · have HE := hide (K5.out trivial trivial qo qs)
          go_wp2_with fail
          refine (HV.out _).mono ?_
          rintro e w3 ⟨h1, h2, hb⟩
          have B3 := hide (below_on B2.out hb)
          have he := h2 qo
          subst he
          have hne := run_eq_nil_nilK (P := Tryd.prog) w3 Tryd.underlying59
          have A3 := hide (A2.out.later hb)
          have Q3 := hide (Q2.out.later hb)
          clear hb h1 h2 A2 Q2 B2 qo c0 c1 c2 c3 c4 c5 p0 p1 p2 p3 p4 p5
          obtain ⟨c0, c1, c2, c3, c4, c5⟩ := A3.out
          obtain ⟨p0, p1, p2, p3, p4, p5⟩ := Q3.out
          go_wp2
          go_ret
          exact ⟨by rw [← HE.out]; simp, B3.out⟩
        · have HE := hide (K4.out (Int.not_le.1 qs))
          go_wp2_with fail
          refine (HV.out _).mono ?_
          rintro e w3 ⟨h1, h2, hb⟩
          have B3 := hide (below_on B2.out hb)
          have he := h2 qo
          subst he
          have hne := run_eq_nil_nilK (P := Tryd.prog) w3 Tryd.underlying59
          have A3 := hide (A2.out.later hb)
          have Q3 := hide (Q2.out.later hb)
          clear hb h1 h2 A2 Q2 B2 qo c0 c1 c2 c3 c4 c5 p0 p1 p2 p3 p4 p5
          obtain ⟨c0, c1, c2, c3, c4, c5⟩ := A3.out
          obtain ⟨p0, p1, p2, p3, p4, p5⟩ := Q3.out
          go_wp2
          go_ret
          exact ⟨by rw [← HE.out]; simp [qs], B3.out⟩
    · have HE := hide (K2.out q1)
      obtain ⟨c0, c1, c2, c3, c4, c5⟩ := A1.out
      obtain ⟨p0, p1, p2, p3, p4, p5⟩ := Q1.out
      go_wp2_with fail
      refine (H2.out _ B1.out).mono ?_
      rintro e w2 ⟨rfl, hb⟩
      have B2 := hide (below_on B1.out hb)
      have A2 := hide (A1.out.later hb)
      have Q2 := hide (Q1.out.later hb)
      clear hb c0 c1 c2 c3 c4 c5 p0 p1 p2 p3 p4 p5
      go_wp2
      go_ret
      exact ⟨by rw [← HE.out]; rfl, B2.out⟩
  · have HE := hide (K1.out q0)
    obtain ⟨c0, c1, c2, c3, c4, c5⟩ := VA.out
    obtain ⟨p0, p1, p2, p3, p4, p5⟩ := VB.out
    go_enter Tryd.func11, Tryd.ntmps11
    go_wp2_with fail
    (try rw [hW])
    clear hW
    refine (H1.out _ BA.out).mono ?_
    rintro e w1 ⟨rfl, hb⟩
    have B1 := hide (below_on BA.out hb)
    have A1 := hide (VA.out.later hb)
    have Q1 := hide (VB.out.later hb)
    clear hb c0 c1 c2 c3 c4 c5 p0 p1 p2 p3 p4 p5
    go_wp2
    go_ret
    exact ⟨by rw [← HE.out]; rfl, B1.out⟩

end Go.Proofs.YtncgpfapepminaaDoor
/- Chapter 15: what FnHards, FnCompacts and FnInstall say of stores (mathematics alone). -/
namespace Go.Proofs.YtncgpfapepminaaDoor
open Go.RowKit

theorem hd_law {r : Rf} {t v : Int} (h : shC r t v = 0) : keptB r (shR r t v) = true ∧ (v ≠ 0 → shC (shR r t v) t (v % 9 + 1) = 6) ∧ (t ≠ 0 → shC (shR r t v) (t - 1) v = 6) := by
  obtain ⟨h0, ⟨ht, hv⟩, h2, e⟩ := sh_inv h
  have hr := sh_rf h
  rw [e] at hr ⊢
  refine ⟨(kept_ok h0 hr h2 (Int.le_refl _)).symm, fun hv0 => ?_, fun ht0 => ?_⟩
  · unfold shC
    rw [if_pos hr, if_pos ⟨ht, by omega⟩, if_pos (Or.inr ⟨rfl, hv0, by show v % 9 + 1 ≠ v; omega⟩)]
  · unfold shC
    rw [if_pos hr, if_pos ⟨by omega, hv⟩, if_pos (Or.inl (by show t - 1 < t; omega))]

/-- Behind a compaction. -/
structure CpLaw (r x : Rf) (i : Int) (xs : List Int) : Prop where
  rf : rfF x = 0
  si : x.si = i
  sn : x.sn = xs
  lo : r.si < i
  up : i ≤ lastR r
  last : lastR x = lastR r
  below : ∀ j, j < i → taC x j = 6
  term : ∀ j, i ≤ j → taC r j = taC x j ∧ taV r j = taV x j
  ents : ∀ j n, i < j → efC r j n = efC x j n ∧ efR r j n = efR x j n
  kept : keptB r x = true
  again : ∀ ys, daF ys = 0 → cpC x i ys = 6
  none : ∀ n, 0 ≤ n → n ≤ 14 → efC x i n = 6
theorem cp_law {r : Rf} {i : Int} {xs : List Int} (h : cpC r i xs = 0) : CpLaw r (cpR r i xs) i xs := by
  obtain ⟨h0, h1, k, hk, hi, e⟩ := cp_inv h
  have hr := cp_rf h
  rw [e] at hr ⊢
  have hl : lastR ⟨r.tm, r.vt, r.si + 1 + (k : Int), (r.lg.getD k oj0).2.1, xs, r.lg.drop (k + 1)⟩ = lastR r := by
    unfold lastR
    show r.si + 1 + (k : Int) + ((r.lg.drop (k + 1)).length : Int) = r.si + (r.lg.length : Int)
    rw [List.length_drop]; omega
  have hc : ∀ j, i ≤ j → tmC r j = tmC ⟨r.tm, r.vt, r.si + 1 + (k : Int), (r.lg.getD k oj0).2.1, xs, r.lg.drop (k + 1)⟩ j := fun j hj => by
    unfold tmC
    rw [hl, if_neg (show ¬ j < r.si by omega), if_neg (show ¬ j < r.si + 1 + (k : Int) by omega)]
  refine ⟨hr, hi.symm, rfl, by omega, by unfold lastR; omega, hl, fun j hj => ?_, fun j hj => ⟨?_, ?_⟩, fun j n hj => ?_, (kept_ok h0 hr ?_ (by show r.si ≤ r.si + 1 + (k : Int); omega)).symm, fun ys hy => ?_, fun n hn0 hn1 => ?_⟩
  · unfold taC tmC
    rw [if_pos hr, if_pos (show j < r.si + 1 + (k : Int) by omega)]
  · unfold taC
    rw [if_pos h0, if_pos hr, hc j hj]
  · unfold taV
    rw [if_pos h0, if_pos hr]
    by_cases hu : lastR r < j
    · unfold tmV
      rw [← hc j hj, if_neg, if_neg]
      all_goals (unfold tmC; rw [if_neg (show ¬ j < r.si by omega), if_pos hu]; decide)
    · obtain ⟨a, ha⟩ := Int.eq_ofNat_of_zero_le (show 0 ≤ j - (r.si + 1 + (k : Int)) by omega)
      have hal : k + 1 + a ≤ r.lg.length := by unfold lastR at hu; omega
      obtain ⟨_, v1⟩ := tmV_at (r := r) (i := j) (a := k + 1 + a) (by push_cast; omega) hal
      obtain ⟨_, v2⟩ := tmV_at (r := ⟨r.tm, r.vt, r.si + 1 + (k : Int), (r.lg.getD k oj0).2.1, xs, r.lg.drop (k + 1)⟩) (i := j) (a := a) (by show j = r.si + 1 + (k : Int) + (a : Int); omega) (by show a ≤ (r.lg.drop (k + 1)).length; rw [List.length_drop]; omega)
      rw [v1, v2, if_neg (by omega)]
      by_cases ha0 : a = 0
      · subst ha0; rw [if_pos rfl]; show (r.lg.getD (k + 1 + 0 - 1) oj0).2.1 = (r.lg.getD k oj0).2.1; rw [show k + 1 + 0 - 1 = k by omega]
      · rw [if_neg ha0]; show (r.lg.getD (k + 1 + a - 1) oj0).2.1 = ((r.lg.drop (k + 1)).getD (a - 1) oj0).2.1; rw [getD_drop, show k + 1 + (a - 1) = k + 1 + a - 1 by omega]
  · have he : efC r j n = efC ⟨r.tm, r.vt, r.si + 1 + (k : Int), (r.lg.getD k oj0).2.1, xs, r.lg.drop (k + 1)⟩ j n := by
      unfold efC
      rw [hl, if_pos h0, if_pos hr, if_neg (show ¬ j ≤ r.si by omega), if_neg (show ¬ j ≤ r.si + 1 + (k : Int) by omega)]
    refine ⟨he, ?_⟩
    unfold efR
    rw [← he]
    by_cases hz : efC r j n = 0
    · rw [if_pos hz, if_pos hz]
      show (r.lg.drop (j - r.si - 1).toNat).take n.toNat = ((r.lg.drop (k + 1)).drop (j - (r.si + 1 + (k : Int)) - 1).toNat).take n.toNat
      rw [List.drop_drop, show (j - r.si - 1).toNat = k + 1 + (j - (r.si + 1 + (k : Int)) - 1).toNat by omega]
    · rw [if_neg hz, if_neg hz]
  · rintro (q | ⟨_, q, q2⟩)
    · exact absurd q (by show ¬ r.tm < r.tm; omega)
    · exact q2 rfl
  · unfold cpC
    rw [if_neg (fun q => q hr), if_neg (fun q => q hy), if_pos (show i ≤ r.si + 1 + (k : Int) by omega)]
  · unfold efC
    rw [if_pos hr, if_pos ⟨hn0, hn1⟩, if_pos (show i ≤ r.si + 1 + (k : Int) by omega)]

/-- Behind a snapshot that was given. -/
structure InLaw (r x : Rf) (i t : Int) (xs : List Int) : Prop where
  rf : rfF x = 0
  si : x.si = i
  st : x.st = t
  sn : x.sn = xs
  keep : (taC r i = 0 ∧ taV r i = t) → (x.lg ≠ [] ∨ r.si + (r.lg.length : Int) = i) ∧ cpC r i xs = 0 ∧ cpR r i xs = x
  gone : ¬ (taC r i = 0 ∧ taV r i = t) → x.lg = []
  kept : keptB r x = true
  again : inC x i t xs = 6
theorem in_law {r : Rf} {i t : Int} {xs : List Int} (h : inC r i t xs = 0) : InLaw r (inR r i t xs) i t xs := by
  obtain ⟨h0, h1, h2, h3, h4, e⟩ := in_inv h
  have hr := in_rf h
  rw [e] at hr ⊢
  have ec : taC r i = tmC r i := by unfold taC; rw [if_pos h0]
  have ev : taV r i = tmV r i := by unfold taV; rw [if_pos h0]
  refine ⟨hr, rfl, rfl, rfl, fun hk => ?_, fun hk => ?_, (kept_ok h0 hr ?_ (by show r.si ≤ i; omega)).symm, ?_⟩
  · rw [ec, ev] at hk
    obtain ⟨_, h5⟩ := tmC_in hk.1
    have hcp : cpC r i xs = 0 := by unfold cpC; rw [if_neg (fun q => q h0), if_neg (fun q => q h1), if_neg h3]; exact hk.1
    refine ⟨?_, hcp, ?_⟩
    · show (if tmC r i = 0 ∧ tmV r i = t then r.lg.drop (i - r.si).toNat else []) ≠ [] ∨ _
      rw [if_pos hk]
      unfold lastR at h5
      by_cases hl : r.si + (r.lg.length : Int) = i
      · exact Or.inr hl
      · left
        intro q
        have := congrArg List.length q
        rw [List.length_drop] at this
        simp only [List.length_nil] at this
        omega
    · unfold cpR
      rw [if_pos hcp, if_pos hk, hk.2]
  · rw [ec, ev] at hk
    show (if tmC r i = 0 ∧ tmV r i = t then r.lg.drop (i - r.si).toNat else []) = []
    rw [if_neg hk]
  · rintro (q | ⟨_, q, q2⟩)
    · exact absurd q (by show ¬ r.tm < r.tm; omega)
    · exact q2 rfl
  · unfold inC
    rw [if_neg (fun q => q hr), if_neg (fun q => q h1), if_neg (fun q => q h2), if_pos (show i ≤ i from Int.le_refl _)]
end Go.Proofs.YtncgpfapepminaaDoor
/- Lists of numbers held against each other: 'slices.Equal' and the model's 'l2Same', walked. -/
namespace Go.Proofs.YtncgpfapepminaaDoor
open Go.RowKit

theorem list_ext {α : Type} [Inhabited α] {d : α} {xs ys : List α} (hl : xs.length = ys.length) (h : ∀ j, j < xs.length → xs.getD j d = ys.getD j d) : xs = ys := by
  apply List.ext_getElem hl
  intro i h1 h2
  have := h i h1
  simpa [List.getD, h1, h2] using this

set_option maxHeartbeats 1000000 in
set_option maxRecDepth 4000 in
theorem slicesEqualR {S T : Nat → Prop} {w : World} {u v : Value} {xs ys : List Int} (hu : RdI S w u xs) (hv : RdI T w v ys) :
    Calls Tryd.prog 55 #[u, v] w fun e w' => e = .returned (.bool (decide (xs = ys))) ∧ ∃ q, w' = w.drewN q := by
  have hm : xs.length ≤ 9223372036854775807 := by obtain ⟨_, _, _, h, _⟩ := hu; exact h
  have hm' : ys.length ≤ 9223372036854775807 := by obtain ⟨_, _, _, h, _⟩ := hv; exact h
  obtain ⟨ao, c, rfl⟩ := hu.shape
  obtain ⟨ao', c', rfl⟩ := hv.shape
  have HU := hide hu
  have HV := hide hv
  obtain ⟨B, hB⟩ : ∃ B, decide (xs = ys) = B := ⟨_, rfl⟩
  have HB := hide hB
  rw [hB]
  clear hu hv hB
  obtain ⟨n, hn⟩ : ∃ n, xs.length = n := ⟨_, rfl⟩
  obtain ⟨n', hn'⟩ : ∃ n', ys.length = n' := ⟨_, rfl⟩
  have HN := hide hn
  have HN' := hide hn'
  rw [hn] at HU hm ⊢
  rw [hn'] at HV hm' ⊢
  clear hn hn'
  by_cases hl : n = n'
  · subst hl
    go_enter Tryd.func55, Tryd.ntmps55
    go_wp2
    go_loopw [13] (fun i wr => ∃ k q : Nat, k ≤ n ∧ i = .int .i64 k ∧ Hid (∀ j, j < k → xs.getD j 0 = ys.getD j 0) ∧ wr = w.drewN q) (fun i _ => n - (intOf i).toNat)
    case atStart => exact ⟨0, 0, Nat.zero_le _, rfl, fun j hj => absurd hj (Nat.not_lt_zero _), rfl⟩
    case round =>
      obtain ⟨k, q, hk, rfl, HA, rfl⟩ := hrel
      by_cases hlt : k < n
      · obtain ⟨b, off, rfl, g1⟩ := HU.out.at (k := k) (by rw [HN.out]; exact hlt)
        obtain ⟨b', off', rfl, g2⟩ := HV.out.at (k := k) (by rw [HN'.out]; exact hlt)
        obtain ⟨x, hx⟩ : ∃ x, xs.getD k 0 = x := ⟨_, rfl⟩
        obtain ⟨y, hy⟩ : ∃ y, ys.getD k 0 = y := ⟨_, rfl⟩
        have HX := hide hx
        have HY := hide hy
        rw [hx] at g1
        rw [hy] at g2
        clear hx hy
        by_cases hxy : x = y
        · subst hxy
          have HA2 : Hid (∀ j, j < k + 1 → xs.getD j 0 = ys.getD j 0) := by
            intro j hj
            by_cases e : j = k
            · subst e; rw [HX.out, HY.out]
            · exact HA.out j (by omega)
          go_wp2
          go_quiet (fail)
          go_wp2
          go_roundw
          case rel => exact ⟨k + 1, _, by omega, by go_num, HA2.out, rfl⟩
          case measure => simp [intOf]; omega
        · have hb : B = false := by
            rw [← HB.out]
            exact decide_eq_false (fun e => hxy (by rw [← HX.out, ← HY.out, e]))
          subst hb
          go_wp2
          go_quiet (fail)
          go_wp2
          go_ret
          exact ⟨rfl, _, World.drewN_drewN ..⟩
      · have hb : B = true := by
          rw [← HB.out]
          exact decide_eq_true (list_ext (by rw [HN.out, HN'.out]) (fun j hj => HA.out j (by rw [HN.out] at hj; omega)))
        subst hb
        go_wp2
        go_ret
        exact ⟨rfl, _, rfl⟩
  · have hb : B = false := by
      rw [← HB.out]
      exact decide_eq_false (fun e => hl (by rw [← HN.out, ← HN'.out, e]))
    subst hb
    have hl' : ¬ (n : Int) = (n' : Int) := by omega
    go_enter Tryd.func55, Tryd.ntmps55
    go_wp2
    go_ret
    exact ⟨rfl, 0, rfl⟩

end Go.Proofs.YtncgpfapepminaaDoor
