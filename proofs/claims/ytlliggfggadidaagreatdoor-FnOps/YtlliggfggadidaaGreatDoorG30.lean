/- Kp MathHd2 Same En4 Lw LawHards in one text: what each says stands at its head below. -/
import Derived.Test.YtlliggfggadidaaGreatDoorG06
import Derived.Test.YtlliggfggadidaaGreatDoorG08
import Derived.Deep.RegionHeld3
import Derived.Test.YtlliggfggadidaaGreatDoorG09
import Derived.Test.YtlliggfggadidaaGreatDoorG01
import Derived.Test.YtlliggfggadidaaGreatDoorG02
import Derived.BigQuiet
import Derived.Test.YtlliggfggadidaaGreatDoorG25
import Derived.Test.YtlliggfggadidaaGreatDoorG10
namespace Go.Proofs.YtlliggfggadidaaGreatDoor
open Go.RowKit
noncomputable def keptB (r s : Rf) : Bool := @decide (rfF r = 0 ∧ rfF s = 0 ∧ ¬ OverH r.tm r.vt s.tm s.vt ∧ r.si ≤ s.si) (Classical.propDecidable _)
theorem kept_bad {r s : Rf} (h : rfF r ≠ 0) : false = keptB r s := by unfold keptB; exact (@decide_eq_false _ (Classical.propDecidable _) (fun q => h q.1)).symm
theorem kept_bad2 {r s : Rf} (h : rfF s ≠ 0) : false = keptB r s := by unfold keptB; exact (@decide_eq_false _ (Classical.propDecidable _) (fun q => h q.2.1)).symm
theorem kept_over {r s : Rf} (h : OverH r.tm r.vt s.tm s.vt) : false = keptB r s := by unfold keptB; exact (@decide_eq_false _ (Classical.propDecidable _) (fun q => q.2.2.1 h)).symm
theorem kept_snap {r s : Rf} (h : ¬ r.si ≤ s.si) : false = keptB r s := by unfold keptB; exact (@decide_eq_false _ (Classical.propDecidable _) (fun q => h q.2.2.2)).symm
theorem kept_ok {r s : Rf} (h0 : rfF r = 0) (h1 : rfF s = 0) (h : ¬ OverH r.tm r.vt s.tm s.vt) (h2 : r.si ≤ s.si) : true = keptB r s := by unfold keptB; exact (@decide_eq_true _ (Classical.propDecidable _) ⟨h0, h1, h, h2⟩).symm
theorem run_eq_iface_nilK {P : Program} (w : World) {ti : TypeId} {ms : Array (String × TypeId)} (tp : TypeId) (v : Value) (hi : P.underlying ti = some (.interface ms)) :
    (binOp .eql ti (.iface tp v) .nilIface).run P w = .ok (.bool false) w := by
  have h : ∀ d : Nat, (Op.equalIn (d + 1) ti (.iface tp v) .nilIface).run P w = .ok false w := fun d => by simp [Op.equalIn, run_underlying hi]
  simp only [binOp]
  simp [Op.equal, Op.maxDepth, h 9999]
theorem run_eq_nil_nilK {P : Program} (w : World) {ti : TypeId} {ms : Array (String × TypeId)} (hi : P.underlying ti = some (.interface ms)) :
    (binOp .eql ti .nilIface .nilIface).run P w = .ok (.bool true) w := by
  have h : ∀ d : Nat, (Op.equalIn (d + 1) ti .nilIface .nilIface).run P w = .ok true w := fun d => by simp [Op.equalIn, run_underlying hi]
  simp only [binOp]
  simp [Op.equal, Op.maxDepth, h 9999]
set_option maxHeartbeats 8000000 in
set_option maxRecDepth 4000 in
theorem implKeptOf {S T S' T' : Nat → Prop} {w : World} {yr zr ys zs : Value} (r s : Rf) (hyr : RdI S w yr r.sn) (hzr : RdJ T w zr r.lg) (hys : RdI S' w ys s.sn) (hzs : RdJ T' w zs s.lg) :
    Calls Tryz.prog 13 #[.agg #[.int .i64 r.tm, .int .i64 r.vt, .int .i64 r.si, .int .i64 r.st, yr, zr], .agg #[.int .i64 s.tm, .int .i64 s.vt, .int .i64 s.si, .int .i64 s.st, ys, zs]] w fun e w' => e = .returned (.bool (keptB r s)) ∧ Below w.heap.size w w' := by
  obtain ⟨ayr, cyr, rfl⟩ := hyr.shape
  obtain ⟨azr, czr, rfl, _⟩ := hzr.shape
  obtain ⟨ays, cys, rfl⟩ := hys.shape
  obtain ⟨azs, czs, rfl, _⟩ := hzs.shape
  have H1 := hide (fun (w' : World) (hb : Below w.heap.size w w') => implRaftFault r (hyr.later hb) (hzr.later hb))
  have H2 := hide (fun (w' : World) (hb : Below w.heap.size w w') => implRaftFault s (hys.later hb) (hzs.later hb))
  have K1 := hide (@kept_bad r s)
  have K2 := hide (@kept_bad2 r s)
  have K3 := hide (@kept_over r s)
  have K4 := hide (@kept_snap r s)
  have K5 := hide (@kept_ok r s)
  have KR := hide (fun h => (rfF_iff (r := r)).1 h)
  obtain ⟨Z, hZ⟩ : ∃ Z, keptB r s = Z := ⟨_, rfl⟩
  rw [hZ] at K1 K2 K3 K4 K5 ⊢
  clear hZ
  have HT : Hid (rfF r = 0 → 0 ≤ r.tm ∧ r.tm ≤ 999) := fun h => (KR.out h).rg.1.1
  obtain ⟨f, hf⟩ : ∃ f, rfF r = f := ⟨_, rfl⟩
  obtain ⟨g, hg⟩ : ∃ g, rfF s = g := ⟨_, rfl⟩
  rw [hf] at H1 K1 K5 HT
  rw [hg] at H2 K2 K5
  clear hyr hzr hys hzs KR hf
  clear hg
  generalize r.sn.length = lr at *
  generalize r.lg.length = mr at *
  generalize r.tm = a at *
  generalize r.vt = b at *
  generalize r.si = c at *
  generalize r.st = d at *
  generalize s.sn.length = ls at *
  generalize s.lg.length = ms at *
  generalize s.tm = a' at *
  generalize s.vt = b' at *
  generalize s.si = c' at *
  generalize s.st = d' at *
  have BA := hide (below_on (below_alloc w (.cells #[.int .i64 a, .int .i64 b, .int .i64 c, .int .i64 d, .slice ayr lr cyr, .slice azr mr czr] 27)) (below_alloc _ (.cells #[.int .i64 a', .int .i64 b', .int .i64 c', .int .i64 d', .slice ays ls cys, .slice azs ms czs] 27)))
  have VA := hide ((Var6_new w (.int .i64 a) (.int .i64 b) (.int .i64 c) (.int .i64 d) (.slice ayr lr cyr) (.slice azr mr czr) 27).later (below_alloc _ (.cells #[.int .i64 a', .int .i64 b', .int .i64 c', .int .i64 d', .slice ays ls cys, .slice azs ms czs] 27)))
  have h1 := Var6_new (w.alloc (.cells #[.int .i64 a, .int .i64 b, .int .i64 c, .int .i64 d, .slice ayr lr cyr, .slice azr mr czr] 27)) (.int .i64 a') (.int .i64 b') (.int .i64 c') (.int .i64 d') (.slice ays ls cys) (.slice azs ms czs) 27
  simp only [World.size_alloc] at h1
  have VB := hide h1
  clear h1
  obtain ⟨W, hW⟩ : ∃ W, (w.alloc (.cells #[.int .i64 a, .int .i64 b, .int .i64 c, .int .i64 d, .slice ayr lr cyr, .slice azr mr czr] 27)).alloc (.cells #[.int .i64 a', .int .i64 b', .int .i64 c', .int .i64 d', .slice ays ls cys, .slice azs ms czs] 27) = W := ⟨_, rfl⟩
  rw [hW] at BA VA VB
  by_cases q0 : f = 0
  · subst q0
    obtain ⟨t0, t1⟩ := HT.out rfl
    obtain ⟨c0, c1, c2, c3, c4, c5⟩ := VA.out
    obtain ⟨p0, p1, p2, p3, p4, p5⟩ := VB.out
    go_enter Tryz.func13, Tryz.ntmps13
    go_wp2_with fail
    (try rw [hW])
    clear hW
    refine (H1.out _ BA.out).mono ?_
    rintro e w1 ⟨rfl, hb⟩
    have B1 := hide (below_on BA.out hb)
    have A1 := hide (VA.out.later hb)
    have Q1 := hide (VB.out.later hb)
    clear hb c0 c1 c2 c3 c4 c5 p0 p1 p2 p3 p4 p5
    by_cases q1 : g = 0
    · subst q1
      obtain ⟨c0, c1, c2, c3, c4, c5⟩ := A1.out
      obtain ⟨p0, p1, p2, p3, p4, p5⟩ := Q1.out
      go_wp2_with fail
      refine (H2.out _ B1.out).mono ?_
      rintro e w2 ⟨rfl, hb⟩
      have B2 := hide (below_on B1.out hb)
      have A2 := hide (A1.out.later hb)
      have Q2 := hide (Q1.out.later hb)
      clear hb c0 c1 c2 c3 c4 c5 p0 p1 p2 p3 p4 p5
      obtain ⟨c0, c1, c2, c3, c4, c5⟩ := A2.out
      obtain ⟨p0, p1, p2, p3, p4, p5⟩ := Q2.out
      have HV := hide (fun (w' : World) => hardOverI a b c d a' b' ayr azr lr cyr mr czr t0 t1 w')
      by_cases qo : OverH a b a' b'
      · have HE := hide (K3.out qo)
        go_wp2_with fail
        refine (HV.out _).mono ?_
        rintro e w3 ⟨h1, h2, hb⟩
        have B3 := hide (below_on B2.out hb)
        obtain ⟨x, rfl⟩ := h1 qo
        have hne := run_eq_iface_nilK (P := Tryz.prog) w3 107 (.agg #[.int .i64 x]) Tryz.underlying72
        have A3 := hide (A2.out.later hb)
        have Q3 := hide (Q2.out.later hb)
        clear hb h1 h2 A2 Q2 B2 qo c0 c1 c2 c3 c4 c5 p0 p1 p2 p3 p4 p5
        obtain ⟨c0, c1, c2, c3, c4, c5⟩ := A3.out
        obtain ⟨p0, p1, p2, p3, p4, p5⟩ := Q3.out
        go_wp2
        go_ret
        exact ⟨by rw [← HE.out]; rfl, B3.out⟩
      · by_cases qs : c ≤ c'
        · have HE := hide (K5.out trivial trivial qo qs)
          go_wp2_with fail
          refine (HV.out _).mono ?_
          rintro e w3 ⟨h1, h2, hb⟩
          have B3 := hide (below_on B2.out hb)
          have he := h2 qo
          subst he
          have hne := run_eq_nil_nilK (P := Tryz.prog) w3 Tryz.underlying72
          have A3 := hide (A2.out.later hb)
          have Q3 := hide (Q2.out.later hb)
          clear hb h1 h2 A2 Q2 B2 qo c0 c1 c2 c3 c4 c5 p0 p1 p2 p3 p4 p5
          obtain ⟨c0, c1, c2, c3, c4, c5⟩ := A3.out
          obtain ⟨p0, p1, p2, p3, p4, p5⟩ := Q3.out
          go_wp2
          go_ret
          exact ⟨by rw [← HE.out]; simp, B3.out⟩
        · have HE := hide (K4.out (Int.not_le.1 qs))
          go_wp2_with fail
          refine (HV.out _).mono ?_
          rintro e w3 ⟨h1, h2, hb⟩
          have B3 := hide (below_on B2.out hb)
          have he := h2 qo
          subst he
          have hne := run_eq_nil_nilK (P := Tryz.prog) w3 Tryz.underlying72
          have A3 := hide (A2.out.later hb)
          have Q3 := hide (Q2.out.later hb)
          clear hb h1 h2 A2 Q2 B2 qo c0 c1 c2 c3 c4 c5 p0 p1 p2 p3 p4 p5
          obtain ⟨c0, c1, c2, c3, c4, c5⟩ := A3.out
          obtain ⟨p0, p1, p2, p3, p4, p5⟩ := Q3.out
          go_wp2
          go_ret
          exact ⟨by rw [← HE.out]; simp [qs], B3.out⟩
    · have HE := hide (K2.out q1)
      obtain ⟨c0, c1, c2, c3, c4, c5⟩ := A1.out
      obtain ⟨p0, p1, p2, p3, p4, p5⟩ := Q1.out
      go_wp2_with fail
      refine (H2.out _ B1.out).mono ?_
      rintro e w2 ⟨rfl, hb⟩
      have B2 := hide (below_on B1.out hb)
      have A2 := hide (A1.out.later hb)
      have Q2 := hide (Q1.out.later hb)
      clear hb c0 c1 c2 c3 c4 c5 p0 p1 p2 p3 p4 p5
      go_wp2
      go_ret
      exact ⟨by rw [← HE.out]; rfl, B2.out⟩
  · have HE := hide (K1.out q0)
    obtain ⟨c0, c1, c2, c3, c4, c5⟩ := VA.out
    obtain ⟨p0, p1, p2, p3, p4, p5⟩ := VB.out
    go_enter Tryz.func13, Tryz.ntmps13
    go_wp2_with fail
    (try rw [hW])
    clear hW
    refine (H1.out _ BA.out).mono ?_
    rintro e w1 ⟨rfl, hb⟩
    have B1 := hide (below_on BA.out hb)
    have A1 := hide (VA.out.later hb)
    have Q1 := hide (VB.out.later hb)
    clear hb c0 c1 c2 c3 c4 c5 p0 p1 p2 p3 p4 p5
    go_wp2
    go_ret
    exact ⟨by rw [← HE.out]; rfl, B1.out⟩
end Go.Proofs.YtlliggfggadidaaGreatDoor
namespace Go.Proofs.YtlliggfggadidaaGreatDoor
open Go.RowKit
theorem hd_law {r : Rf} {t v : Int} (h : shC r t v = 0) : keptB r (shR r t v) = true ∧ (v ≠ 0 → shC (shR r t v) t (v % 9 + 1) = 6) ∧ (t ≠ 0 → shC (shR r t v) (t - 1) v = 6) := by
  obtain ⟨h0, ⟨ht, hv⟩, h2, e⟩ := sh_inv h
  have hr := sh_rf h
  rw [e] at hr ⊢
  refine ⟨(kept_ok h0 hr h2 (Int.le_refl _)).symm, fun hv0 => ?_, fun ht0 => ?_⟩
  · unfold shC
    rw [if_pos hr, if_pos ⟨ht, by omega⟩, if_pos (Or.inr ⟨rfl, hv0, by show v % 9 + 1 ≠ v; omega⟩)]
  · unfold shC
    rw [if_pos hr, if_pos ⟨by omega, hv⟩, if_pos (Or.inl (by show t - 1 < t; omega))]
structure CpLaw (r x : Rf) (i : Int) (xs : List Int) : Prop where
  rf : rfF x = 0
  si : x.si = i
  sn : x.sn = xs
  lo : r.si < i
  up : i ≤ lastR r
  last : lastR x = lastR r
  below : ∀ j, j < i → taC x j = 6
  term : ∀ j, i ≤ j → taC r j = taC x j ∧ taV r j = taV x j
  ents : ∀ j n, i < j → efC r j n = efC x j n ∧ efR r j n = efR x j n
  kept : keptB r x = true
  again : ∀ ys, daF ys = 0 → cpC x i ys = 6
  none : ∀ n, 0 ≤ n → n ≤ 14 → efC x i n = 6
theorem cp_law {r : Rf} {i : Int} {xs : List Int} (h : cpC r i xs = 0) : CpLaw r (cpR r i xs) i xs := by
  obtain ⟨h0, h1, k, hk, hi, e⟩ := cp_inv h
  have hr := cp_rf h
  rw [e] at hr ⊢
  have hl : lastR ⟨r.tm, r.vt, r.si + 1 + (k : Int), (r.lg.getD k oj0).2.1, xs, r.lg.drop (k + 1)⟩ = lastR r := by
    unfold lastR
    show r.si + 1 + (k : Int) + ((r.lg.drop (k + 1)).length : Int) = r.si + (r.lg.length : Int)
    rw [List.length_drop]; omega
  have hc : ∀ j, i ≤ j → tmC r j = tmC ⟨r.tm, r.vt, r.si + 1 + (k : Int), (r.lg.getD k oj0).2.1, xs, r.lg.drop (k + 1)⟩ j := fun j hj => by
    unfold tmC
    rw [hl, if_neg (show ¬ j < r.si by omega), if_neg (show ¬ j < r.si + 1 + (k : Int) by omega)]
  refine ⟨hr, hi.symm, rfl, by omega, by unfold lastR; omega, hl, fun j hj => ?_, fun j hj => ⟨?_, ?_⟩, fun j n hj => ?_, (kept_ok h0 hr ?_ (by show r.si ≤ r.si + 1 + (k : Int); omega)).symm, fun ys hy => ?_, fun n hn0 hn1 => ?_⟩
  · unfold taC tmC
    rw [if_pos hr, if_pos (show j < r.si + 1 + (k : Int) by omega)]
  · unfold taC
    rw [if_pos h0, if_pos hr, hc j hj]
  · unfold taV
    rw [if_pos h0, if_pos hr]
    by_cases hu : lastR r < j
    · unfold tmV
      rw [← hc j hj, if_neg, if_neg]
      all_goals (unfold tmC; rw [if_neg (show ¬ j < r.si by omega), if_pos hu]; decide)
    · obtain ⟨a, ha⟩ := Int.eq_ofNat_of_zero_le (show 0 ≤ j - (r.si + 1 + (k : Int)) by omega)
      have hal : k + 1 + a ≤ r.lg.length := by unfold lastR at hu; omega
      obtain ⟨_, v1⟩ := tmV_at (r := r) (i := j) (a := k + 1 + a) (by push_cast; omega) hal
      obtain ⟨_, v2⟩ := tmV_at (r := ⟨r.tm, r.vt, r.si + 1 + (k : Int), (r.lg.getD k oj0).2.1, xs, r.lg.drop (k + 1)⟩) (i := j) (a := a) (by show j = r.si + 1 + (k : Int) + (a : Int); omega) (by show a ≤ (r.lg.drop (k + 1)).length; rw [List.length_drop]; omega)
      rw [v1, v2, if_neg (by omega)]
      by_cases ha0 : a = 0
      · subst ha0; rw [if_pos rfl]; show (r.lg.getD (k + 1 + 0 - 1) oj0).2.1 = (r.lg.getD k oj0).2.1; rw [show k + 1 + 0 - 1 = k by omega]
      · rw [if_neg ha0]; show (r.lg.getD (k + 1 + a - 1) oj0).2.1 = ((r.lg.drop (k + 1)).getD (a - 1) oj0).2.1; rw [getD_drop, show k + 1 + (a - 1) = k + 1 + a - 1 by omega]
  · have he : efC r j n = efC ⟨r.tm, r.vt, r.si + 1 + (k : Int), (r.lg.getD k oj0).2.1, xs, r.lg.drop (k + 1)⟩ j n := by
      unfold efC
      rw [hl, if_pos h0, if_pos hr, if_neg (show ¬ j ≤ r.si by omega), if_neg (show ¬ j ≤ r.si + 1 + (k : Int) by omega)]
    refine ⟨he, ?_⟩
    unfold efR
    rw [← he]
    by_cases hz : efC r j n = 0
    · rw [if_pos hz, if_pos hz]
      show (r.lg.drop (j - r.si - 1).toNat).take n.toNat = ((r.lg.drop (k + 1)).drop (j - (r.si + 1 + (k : Int)) - 1).toNat).take n.toNat
      rw [List.drop_drop, show (j - r.si - 1).toNat = k + 1 + (j - (r.si + 1 + (k : Int)) - 1).toNat by omega]
    · rw [if_neg hz, if_neg hz]
  · rintro (q | ⟨_, q, q2⟩)
    · exact absurd q (by show ¬ r.tm < r.tm; omega)
    · exact q2 rfl
  · unfold cpC
    rw [if_neg (fun q => q hr), if_neg (fun q => q hy), if_pos (show i ≤ r.si + 1 + (k : Int) by omega)]
  · unfold efC
    rw [if_pos hr, if_pos ⟨hn0, hn1⟩, if_pos (show i ≤ r.si + 1 + (k : Int) by omega)]
structure InLaw (r x : Rf) (i t : Int) (xs : List Int) : Prop where
  rf : rfF x = 0
  si : x.si = i
  st : x.st = t
  sn : x.sn = xs
  keep : (taC r i = 0 ∧ taV r i = t) → (x.lg ≠ [] ∨ r.si + (r.lg.length : Int) = i) ∧ cpC r i xs = 0 ∧ cpR r i xs = x
  gone : ¬ (taC r i = 0 ∧ taV r i = t) → x.lg = []
  kept : keptB r x = true
  again : inC x i t xs = 6
theorem in_law {r : Rf} {i t : Int} {xs : List Int} (h : inC r i t xs = 0) : InLaw r (inR r i t xs) i t xs := by
  obtain ⟨h0, h1, h2, h3, h4, e⟩ := in_inv h
  have hr := in_rf h
  rw [e] at hr ⊢
  have ec : taC r i = tmC r i := by unfold taC; rw [if_pos h0]
  have ev : taV r i = tmV r i := by unfold taV; rw [if_pos h0]
  refine ⟨hr, rfl, rfl, rfl, fun hk => ?_, fun hk => ?_, (kept_ok h0 hr ?_ (by show r.si ≤ i; omega)).symm, ?_⟩
  · rw [ec, ev] at hk
    obtain ⟨_, h5⟩ := tmC_in hk.1
    have hcp : cpC r i xs = 0 := by unfold cpC; rw [if_neg (fun q => q h0), if_neg (fun q => q h1), if_neg h3]; exact hk.1
    refine ⟨?_, hcp, ?_⟩
    · show (if tmC r i = 0 ∧ tmV r i = t then r.lg.drop (i - r.si).toNat else []) ≠ [] ∨ _
      rw [if_pos hk]
      unfold lastR at h5
      by_cases hl : r.si + (r.lg.length : Int) = i
      · exact Or.inr hl
      · left
        intro q
        have := congrArg List.length q
        rw [List.length_drop] at this
        simp only [List.length_nil] at this
        omega
    · unfold cpR
      rw [if_pos hcp, if_pos hk, hk.2]
  · rw [ec, ev] at hk
    show (if tmC r i = 0 ∧ tmV r i = t then r.lg.drop (i - r.si).toNat else []) = []
    rw [if_neg hk]
  · rintro (q | ⟨_, q, q2⟩)
    · exact absurd q (by show ¬ r.tm < r.tm; omega)
    · exact q2 rfl
  · unfold inC
    rw [if_neg (fun q => q hr), if_neg (fun q => q h1), if_neg (fun q => q h2), if_pos (show i ≤ i from Int.le_refl _)]
end Go.Proofs.YtlliggfggadidaaGreatDoor
namespace Go.Proofs.YtlliggfggadidaaGreatDoor
open Go.RowKit
theorem list_ext {α : Type} [Inhabited α] {d : α} {xs ys : List α} (hl : xs.length = ys.length) (h : ∀ j, j < xs.length → xs.getD j d = ys.getD j d) : xs = ys := by
  apply List.ext_getElem hl
  intro i h1 h2
  have := h i h1
  simpa [List.getD, h1, h2] using this
set_option maxHeartbeats 1000000 in
set_option maxRecDepth 4000 in
theorem slicesEqualR {S T : Nat → Prop} {w : World} {u v : Value} {xs ys : List Int} (hu : RdI S w u xs) (hv : RdI T w v ys) :
    Calls Tryz.prog 37 #[u, v] w fun e w' => e = .returned (.bool (decide (xs = ys))) ∧ ∃ q, w' = w.drewN q := by
  have hm : xs.length ≤ 9223372036854775807 := by obtain ⟨_, _, _, h, _⟩ := hu; exact h
  have hm' : ys.length ≤ 9223372036854775807 := by obtain ⟨_, _, _, h, _⟩ := hv; exact h
  obtain ⟨ao, c, rfl⟩ := hu.shape
  obtain ⟨ao', c', rfl⟩ := hv.shape
  have HU := hide hu
  have HV := hide hv
  obtain ⟨B, hB⟩ : ∃ B, decide (xs = ys) = B := ⟨_, rfl⟩
  have HB := hide hB
  rw [hB]
  clear hu hv hB
  obtain ⟨n, hn⟩ : ∃ n, xs.length = n := ⟨_, rfl⟩
  obtain ⟨n', hn'⟩ : ∃ n', ys.length = n' := ⟨_, rfl⟩
  have HN := hide hn
  have HN' := hide hn'
  rw [hn] at HU hm ⊢
  rw [hn'] at HV hm' ⊢
  clear hn hn'
  by_cases hl : n = n'
  · subst hl
    go_enter Tryz.func37, Tryz.ntmps37
    go_wp2
    go_loopw [13] (fun i wr => ∃ k q : Nat, k ≤ n ∧ i = .int .i64 k ∧ Hid (∀ j, j < k → xs.getD j 0 = ys.getD j 0) ∧ wr = w.drewN q) (fun i _ => n - (intOf i).toNat)
    case atStart => exact ⟨0, 0, Nat.zero_le _, rfl, fun j hj => absurd hj (Nat.not_lt_zero _), rfl⟩
    case round =>
      obtain ⟨k, q, hk, rfl, HA, rfl⟩ := hrel
      by_cases hlt : k < n
      · obtain ⟨b, off, rfl, g1⟩ := HU.out.at (k := k) (by rw [HN.out]; exact hlt)
        obtain ⟨b', off', rfl, g2⟩ := HV.out.at (k := k) (by rw [HN'.out]; exact hlt)
        obtain ⟨x, hx⟩ : ∃ x, xs.getD k 0 = x := ⟨_, rfl⟩
        obtain ⟨y, hy⟩ : ∃ y, ys.getD k 0 = y := ⟨_, rfl⟩
        have HX := hide hx
        have HY := hide hy
        rw [hx] at g1
        rw [hy] at g2
        clear hx hy
        by_cases hxy : x = y
        · subst hxy
          have HA2 : Hid (∀ j, j < k + 1 → xs.getD j 0 = ys.getD j 0) := by
            intro j hj
            by_cases e : j = k
            · subst e; rw [HX.out, HY.out]
            · exact HA.out j (by omega)
          go_wp2
          go_quiet (fail)
          go_wp2
          go_roundw
          case rel => exact ⟨k + 1, _, by omega, by go_num, HA2.out, rfl⟩
          case measure => simp [intOf]; omega
        · have hb : B = false := by
            rw [← HB.out]
            exact decide_eq_false (fun e => hxy (by rw [← HX.out, ← HY.out, e]))
          subst hb
          go_wp2
          go_quiet (fail)
          go_wp2
          go_ret
          exact ⟨rfl, _, World.drewN_drewN ..⟩
      · have hb : B = true := by
          rw [← HB.out]
          exact decide_eq_true (list_ext (by rw [HN.out, HN'.out]) (fun j hj => HA.out j (by rw [HN.out] at hj; omega)))
        subst hb
        go_wp2
        go_ret
        exact ⟨rfl, _, rfl⟩
  · have hb : B = false := by
      rw [← HB.out]
      exact decide_eq_false (fun e => hl (by rw [← HN.out, ← HN'.out, e]))
    subst hb
    have hl' : ¬ (n : Int) = (n' : Int) := by omega
    go_enter Tryz.func37, Tryz.ntmps37
    go_wp2
    go_ret
    exact ⟨rfl, 0, rfl⟩
end Go.Proofs.YtlliggfggadidaaGreatDoor
namespace Go.Proofs.YtlliggfggadidaaGreatDoor
open Go.RowKit
def cmnE : List Oj → List Oj → Nat
  | p :: ps, q :: qs => if p = q then cmnE ps qs + 1 else 0
  | _, _ => 0
theorem cmn_to : ∀ (k : Nat) (ps qs : List Oj), k ≤ ps.length → k ≤ qs.length → (∀ j, j < k → ps.getD j oj0 = qs.getD j oj0) → cmnE ps qs = k + cmnE (ps.drop k) (qs.drop k)
  | 0, ps, qs, _, _, _ => by simp
  | k + 1, [], _, h, _, _ => absurd h (by simp)
  | k + 1, _ :: _, [], _, h, _ => absurd h (by simp)
  | k + 1, p :: ps, q :: qs, h1, h2, h3 => by
    have h0 : p = q := by simpa using h3 0 (by omega)
    have := cmn_to k ps qs (by simpa using h1) (by simpa using h2) (fun j hj => by have := h3 (j + 1) (by omega); simpa using this)
    rw [cmnE, if_pos h0, this]
    simp
    omega
theorem cmn_endA {ps qs : List Oj} {k : Nat} (h : ps.length ≤ k) : cmnE (ps.drop k) (qs.drop k) = 0 := by rw [List.drop_eq_nil_of_le h]; rfl
theorem cmn_all : ∀ (ps qs : List Oj), (ps.length = qs.length ∧ cmnE ps qs = ps.length) ↔ ps = qs
  | [], [] => by simp [cmnE]
  | [], _ :: _ => by simp
  | _ :: _, [] => by simp
  | p :: ps, q :: qs => by
    have ih := cmn_all ps qs
    rw [cmnE]
    by_cases h : p = q
    · rw [if_pos h, h]
      simp only [List.length_cons, List.cons.injEq, true_and]
      rw [← ih]
      omega
    · rw [if_neg h]
      simp [h]
theorem entry_eq {a a' t t' : Int} {xs ys : List Int} : ((a, t, xs) : Oj) = (a', t', ys) ↔ a = a' ∧ t = t' ∧ xs = ys := by simp
set_option maxHeartbeats 2000000 in
set_option maxRecDepth 4000 in
theorem sameEntryI {S T : Nat → Prop} {w : World} {u v : Value} {xs ys : List Int} (a t a' t' : Int) (hu : RdI S w u xs) (hv : RdI T w v ys) :
    Calls Tryz.prog 68 #[.agg #[.int .i64 a, .int .i64 t, u], .agg #[.int .i64 a', .int .i64 t', v]] w fun e w' => e = .returned (.bool (decide (((a, t, xs) : Oj) = (a', t', ys)))) ∧ Below w.heap.size w w' := by
  obtain ⟨ao, c, rfl⟩ := hu.shape
  obtain ⟨ao', c', rfl⟩ := hv.shape
  obtain ⟨n, hn⟩ : ∃ n, xs.length = n := ⟨_, rfl⟩
  obtain ⟨n', hn'⟩ : ∃ n', ys.length = n' := ⟨_, rfl⟩
  have A0 := hide (below_on (below_alloc w (.cells #[.int .i64 a, .int .i64 t, .slice ao n c] 58)) (below_alloc _ (.cells #[.int .i64 a', .int .i64 t', .slice ao' n' c'] 58)))
  have HEq := hide (fun (w' : World) (hb : Below w.heap.size w w') => slicesEqualR (hu.later hb) (hv.later hb))
  rw [hn, hn'] at HEq
  rw [hn, hn']
  clear hu hv hn hn'
  obtain ⟨B, hB⟩ : ∃ B, decide (xs = ys) = B := ⟨_, rfl⟩
  rw [hB] at HEq
  by_cases hab : a = a'
  · subst hab
    by_cases htt : t = t'
    · subst htt
      have hb2 : decide (((a, t, xs) : Oj) = (a, t, ys)) = B := by rw [← hB]; simp
      rw [hb2]
      clear hB hb2
      go_enter Tryz.func68, Tryz.ntmps68
      go_wp2_with fail
      refine (HEq.out _ A0.out).mono ?_
      rintro e w1 ⟨rfl, q, rfl⟩
      have HB1 := hide (below_on A0.out (below_drewN _ q))
      go_wp2
      go_ret
      exact ⟨rfl, HB1.out⟩
    · have hb2 : decide (((a, t, xs) : Oj) = (a, t', ys)) = false := decide_eq_false (fun h => htt (entry_eq.1 h).2.1)
      rw [hb2]
      clear hB hb2
      go_enter Tryz.func68, Tryz.ntmps68
      go_wp2
      go_ret
      exact ⟨rfl, A0.out⟩
  · have hb2 : decide (((a, t, xs) : Oj) = (a', t', ys)) = false := decide_eq_false (fun h => hab (entry_eq.1 h).1)
    rw [hb2]
    clear hB hb2
    go_enter Tryz.func68, Tryz.ntmps68
    go_wp2
    go_ret
    exact ⟨rfl, A0.out⟩
set_option maxHeartbeats 2000000 in
set_option maxRecDepth 4000 in
theorem equalFuncE {S T : Nat → Prop} {w : World} {u v : Value} {ps qs : List Oj} (hu : RdJ S w u ps) (hv : RdJ T w v qs) :
    Calls Tryz.prog 67 #[u, v, .func (.func 68) #[] #[]] w fun e w' => e = .returned (.bool (decide (ps = qs))) ∧ Below w.heap.size w w' := by
  obtain ⟨ao, c, rfl, hm⟩ := hu.shape
  obtain ⟨ao', c', rfl, hm'⟩ := hv.shape
  have HU := hide hu
  have HV := hide hv
  clear hu hv
  obtain ⟨n, hn⟩ : ∃ n, ps.length = n := ⟨_, rfl⟩
  obtain ⟨n', hn'⟩ : ∃ n', qs.length = n' := ⟨_, rfl⟩
  have HN := hide hn
  have HN' := hide hn'
  rw [hn] at HU hm ⊢
  rw [hn'] at HV hm' ⊢
  clear hn hn'
  obtain ⟨B, hB⟩ : ∃ B, decide (ps = qs) = B := ⟨_, rfl⟩
  have HB := hide hB
  rw [hB]
  clear hB
  by_cases hl : n = n'
  · subst hl
    go_enter Tryz.func67, Tryz.ntmps67
    go_wp2
    go_loopw [17] (fun i wr => ∃ k : Nat, k ≤ n ∧ i = .int .i64 k ∧ Hid (∀ j, j < k → ps.getD j oj0 = qs.getD j oj0) ∧ Hid (Below w.heap.size w wr)) (fun i _ => n - (intOf i).toNat)
    case atStart => exact ⟨0, Nat.zero_le _, rfl, fun j hj => absurd hj (Nat.not_lt_zero _), Below.refl _ _⟩
    case round =>
      obtain ⟨k, hk, rfl, HA, HBw⟩ := hrel
      by_cases hlt : k < n
      · obtain ⟨b, off, rfl, V, p0, p1, p2, p3⟩ := HU.out.file (k := k) (by rw [HN.out]; exact hlt)
        obtain ⟨b', off', rfl, V', q0, q1, q2, q3⟩ := HV.out.file (k := k) (by rw [HN'.out]; exact hlt)
        obtain ⟨a1, c1, rfl⟩ := p3.shape
        obtain ⟨a2, c2, rfl⟩ := q3.shape
        have g0 := cell_later HBw.out p0
        have g1 := cell_later HBw.out p1
        have g2 := cell_later HBw.out p2
        have r0 := cell_later HBw.out q0
        have r1 := cell_later HBw.out q1
        have r2 := cell_later HBw.out q2
        have R1 := hide (p3.later HBw.out)
        have R2 := hide (q3.later HBw.out)
        have hbl := World.block_lt_of_cell? _ _ r0
        have hk0 : (0 : Int) ≤ (k : Int) := by omega
        obtain ⟨x, hx⟩ : ∃ x, ps.getD k oj0 = x := ⟨_, rfl⟩
        obtain ⟨y, hy⟩ : ∃ y, qs.getD k oj0 = y := ⟨_, rfl⟩
        have HX := hide hx
        have HY := hide hy
        rw [hx] at g0 g1 g2 R1
        rw [hy] at r0 r1 r2 R2
        clear p0 p1 p2 p3 q0 q1 q2 q3 hx hy
        obtain ⟨x1, x2, xs⟩ := x
        obtain ⟨y1, y2, ys⟩ := y
        dsimp only at g0 g1 g2 r0 r1 r2 R1 R2
        obtain ⟨l1, hl1⟩ : ∃ l1, xs.length = l1 := ⟨_, rfl⟩
        obtain ⟨l2, hl2⟩ : ∃ l2, ys.length = l2 := ⟨_, rfl⟩
        rw [hl1] at g2 R1
        rw [hl2] at r2 R2
        clear hl1 hl2
        have bA := hide (below_on (below_alloc wr (.cells #[.int .i64 x1, .int .i64 x2, .slice a1 l1 c1] 58)) (below_alloc _ (.cells #[.int .i64 y1, .int .i64 y2, .slice a2 l2 c2] 58)))
        have HC := hide (sameEntryI x1 x2 y1 y2 (R1.out.later bA.out) (R2.out.later bA.out))
        by_cases hxy : ((x1, x2, xs) : Oj) = (y1, y2, ys)
        · rw [decide_eq_true hxy] at HC
          have HA2 : Hid (∀ j, j < k + 1 → ps.getD j oj0 = qs.getD j oj0) := by
            intro j hj
            by_cases e : j = k
            · subst e; rw [HX.out, HY.out, hxy]
            · exact HA.out j (by omega)
          clear hxy
          go_wp2_with fail
          refine HC.out.mono ?_
          rintro e w1 ⟨rfl, hb1⟩
          have HB1 := hide (below_on HBw.out (below_on bA.out hb1))
          clear hb1
          go_wp2
          go_roundw
          case rel => exact ⟨k + 1, by omega, by go_num, HA2.out, HB1.out⟩
          case measure => simp [intOf]; omega
        · rw [decide_eq_false hxy] at HC
          have hb : B = false := by
            rw [← HB.out]
            exact decide_eq_false (fun e => hxy (HX.out.symm.trans ((by rw [e]) : ps.getD k oj0 = qs.getD k oj0) |>.trans HY.out))
          subst hb
          clear hxy
          go_wp2_with fail
          refine HC.out.mono ?_
          rintro e w1 ⟨rfl, hb1⟩
          have HB1 := hide (below_on HBw.out (below_on bA.out hb1))
          clear hb1
          go_wp2
          go_ret
          exact ⟨rfl, HB1.out⟩
      · have hb : B = true := by
          rw [← HB.out]
          refine decide_eq_true ((cmn_all ps qs).1 ⟨by rw [HN.out, HN'.out], ?_⟩)
          rw [cmn_to k ps qs (by rw [HN.out]; exact hk) (by rw [HN'.out]; exact hk) HA.out, cmn_endA (by rw [HN.out]; omega), HN.out]
          omega
        subst hb
        go_wp2
        go_ret
        exact ⟨rfl, HBw.out⟩
  · have hb : B = false := by
      rw [← HB.out]
      exact decide_eq_false (fun e => hl (by rw [← HN.out, ← HN'.out, e]))
    subst hb
    have hl' : ¬ (n : Int) = (n' : Int) := by omega
    go_enter Tryz.func67, Tryz.ntmps67
    go_wp2
    go_ret
    exact ⟨rfl, Below.refl _ _⟩
set_option maxHeartbeats 1000000 in
theorem implSameEntries {S T : Nat → Prop} {w : World} {u v : Value} {ps qs : List Oj} (hu : RdJ S w u ps) (hv : RdJ T w v qs) :
    Calls Tryz.prog 38 #[u, v] w fun e w' => e = .returned (.bool (decide (ps = qs))) ∧ Below w.heap.size w w' := by
  have H := hide (equalFuncE hu hv)
  generalize decide (ps = qs) = B at H ⊢
  clear hu hv
  go_enter Tryz.func38, Tryz.ntmps38
  go_wp2_with fail
  refine H.out.mono ?_
  rintro e w1 ⟨rfl, hb1⟩
  have HB1 := hide hb1
  clear hb1
  go_wp2
  go_ret
  exact ⟨rfl, HB1.out⟩
end Go.Proofs.YtlliggfggadidaaGreatDoor
namespace Go.Proofs.YtlliggfggadidaaGreatDoor
open Go.RowKit
theorem lwBig (ao : Option Addr) (n c : Nat) (w : World) (hn : n ≤ 9223372036854775807) :
    Calls Tryz.prog 5 #[.slice ao n c] w fun e w' => e = .returned (.bool (decide (1048576 < n))) ∧ w' = w := by
  by_cases h : 1048576 < n
  · go_enter Tryz.func5, Tryz.ntmps5
    go_wp2
    go_ret
    exact ⟨by simp; omega, rfl⟩
  · go_enter Tryz.func5, Tryz.ntmps5
    go_wp2
    go_ret
    exact ⟨by simp; omega, rfl⟩
end Go.Proofs.YtlliggfggadidaaGreatDoor
namespace Go.Proofs.YtlliggfggadidaaGreatDoor
open Go.RowKit
theorem RdB.freshH {s : Nat} {w : World} {v : Value} {bs : List Nat} (h : RdB s w v bs) : RdB w.heap.size w v bs := h.laterH (Below.refl _ _)
end Go.Proofs.YtlliggfggadidaaGreatDoor
