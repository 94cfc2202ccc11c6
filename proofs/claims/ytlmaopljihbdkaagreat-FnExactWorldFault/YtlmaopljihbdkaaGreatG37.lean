/- St3 in one text: what each says stands at its head below. -/
import Derived.Test.YtlmaopljihbdkaaGreatG36
import Derived.Deep.CutRange
import Derived.Deep.RegionHeld3
namespace Go.Proofs.YtlmaopljihbdkaaGreat
open Go.RowKit Go.Shelf
attribute [local go_sem] Oper.semAt_some
set_option maxHeartbeats 2000000 in
set_option maxRecDepth 4000 in
theorem fileBlocksM (a b c d : Int) (ay : Option Addr) (l cy : Nat) (az : Option Addr) (m cz : Nat) (w : World) :
    Calls Tryz.prog 84 #[.agg #[.int .i64 a, .int .i64 b, .int .i64 c, .int .i64 d, .slice ay l cy, .slice az m cz]] w fun e w' => e = .returned (.func (.func 127) #[] #[.pointer (some ⟨w.heap.size, 0, none⟩)]) ∧ Below w.heap.size w w' ∧ Var6 w' w.heap.size (.int .i64 a) (.int .i64 b) (.int .i64 c) (.int .i64 d) (.slice ay l cy) (.slice az m cz) := by
  go_enter Tryz.func84, Tryz.ntmps84
  go_wp2
  go_ret
  exact ⟨rfl, below_alloc _ _, Var6_new _ _ _ _ _ _ _ _⟩
set_option maxHeartbeats 2000000 in
set_option maxRecDepth 4000 in
theorem metaBlockM (a b c d : Int) (ay : Option Addr) (l cy : Nat) (az : Option Addr) (m cz : Nat) (w : World) :
    Calls Tryz.prog 85 #[.agg #[.int .i64 a, .int .i64 b, .int .i64 c, .int .i64 d, .slice ay l cy, .slice az m cz]] w fun e w' => e = .returned (.func (.func 132) #[] #[.pointer (some ⟨w.heap.size, 0, none⟩)]) ∧ Below w.heap.size w w' ∧ Var6 w' w.heap.size (.int .i64 a) (.int .i64 b) (.int .i64 c) (.int .i64 d) (.slice ay l cy) (.slice az m cz) := by
  go_enter Tryz.func85, Tryz.ntmps85
  go_wp2
  go_ret
  exact ⟨rfl, below_alloc _ _, Var6_new _ _ _ _ _ _ _ _⟩
set_option maxHeartbeats 2000000 in
set_option maxRecDepth 4000 in
theorem snapBlocksM (a b c d : Int) (ay : Option Addr) (l cy : Nat) (az : Option Addr) (m cz : Nat) (w : World) :
    Calls Tryz.prog 86 #[.agg #[.int .i64 a, .int .i64 b, .int .i64 c, .int .i64 d, .slice ay l cy, .slice az m cz]] w fun e w' => e = .returned (.func (.func 133) #[] #[.pointer (some ⟨w.heap.size, 0, none⟩)]) ∧ Below w.heap.size w w' ∧ Var6 w' w.heap.size (.int .i64 a) (.int .i64 b) (.int .i64 c) (.int .i64 d) (.slice ay l cy) (.slice az m cz) := by
  go_enter Tryz.func86, Tryz.ntmps86
  go_wp2
  go_ret
  exact ⟨rfl, below_alloc _ _, Var6_new _ _ _ _ _ _ _ _⟩
set_option maxHeartbeats 2000000 in
set_option maxRecDepth 4000 in
theorem entryBlocksM (a b c d : Int) (ay : Option Addr) (l cy : Nat) (az : Option Addr) (m cz : Nat) (w : World) :
    Calls Tryz.prog 87 #[.agg #[.int .i64 a, .int .i64 b, .int .i64 c, .int .i64 d, .slice ay l cy, .slice az m cz]] w fun e w' => e = .returned (.func (.func 135) #[] #[.pointer (some ⟨w.heap.size, 0, none⟩)]) ∧ Below w.heap.size w w' ∧ Var6 w' w.heap.size (.int .i64 a) (.int .i64 b) (.int .i64 c) (.int .i64 d) (.slice ay l cy) (.slice az m cz) := by
  go_enter Tryz.func87, Tryz.ntmps87
  go_wp2
  go_ret
  exact ⟨rfl, below_alloc _ _, Var6_new _ _ _ _ _ _ _ _⟩
theorem leave_marks {m n0 : Nat} {P : Program} {fn : Func} {tmps : Array Value} {R : Ending → World → Prop} {Jc : World → Prop} (hst : ∀ A l o o', n0 ≤ l → Jc A → A.heap[l]? = some o → isMark o = true → isMark o' = true → Jc (A.putObj l o')) (hfin : ∀ A, Jc A → LeavesInM Fence.wide m P fn tmps R [] .returning A) :
    ∀ (E : List Nat) (A : World), Jc A → E.Pairwise (· ≠ ·) → (∀ b, b ∈ E → n0 ≤ b ∧ A.heap[b]? = some (.deferred (some []))) → LeavesInM Fence.wide m P fn tmps R (E.map fun b => { target := .collected b, args := #[] }) .returning A
  | [], A, hj, _, _ => hfin A hj
  | b :: E, A, hj, hp, hE => ⟨by simp, .inl ⟨b, _, rfl, run_takeDeferred (hE b (by simp)).2, leave_marks hst hfin E _ (hst _ _ _ _ (hE b (by simp)).1 hj (hE b (by simp)).2 rfl rfl) (List.pairwise_cons.1 hp).2 (fun c hc => ⟨(hE c (by simp [hc])).1, (World.putObj_heap_other (fun (e : c = b) => (List.pairwise_cons.1 hp).1 c hc e.symm)).trans (hE c (by simp [hc])).2⟩)⟩⟩
theorem roundIn_any {a b l q : Nat} {P : Program} {f : FuncId} {tmps : Array Value} {assign body : Code} {w : World} {R : Ending → World → Prop} (h : RoundIn Fence.wide a P l f tmps assign body w R) : RoundIn (Fence.wide.inRound q) b P l f tmps assign body w R := ⟨h.1, fun c cs _ => h.2 c cs (room_wide _)⟩
theorem cat_at (xs ys zs : List (Int × List Int)) (k : Nat) (hk : k < ys.length) {ws : List (Int × List Int)} (hw : ws = xs ++ ys ++ zs) : xs.length + k < ws.length ∧ ws.getD (xs.length + k) (0, []) = ys.getD k (0, []) := by
  subst hw
  refine ⟨by simp; omega, ?_⟩
  simp only [List.getD]
  rw [List.append_assoc, List.getElem?_append_right (by omega), Nat.add_sub_cancel_left, List.getElem?_append_left hk]
structure RowG (r : Rf) (ay : Option Addr) (cy : Nat) (az : Option Addr) (cz : Nat) (W0 : World) (bl b1 b2 b3 b4 : Nat) (wx : World) : Prop where
  below : Below W0.heap.size W0 wx
  c0 : wx.cell? ⟨bl, 0, none⟩ = some (.func (.func 127) #[] #[.pointer (some ⟨b1, 0, none⟩)])
  c1 : wx.cell? ⟨bl, 1, none⟩ = some (.func (.func 132) #[] #[.pointer (some ⟨b2, 0, none⟩)])
  c2 : wx.cell? ⟨bl, 2, none⟩ = some (.func (.func 133) #[] #[.pointer (some ⟨b3, 0, none⟩)])
  c3 : wx.cell? ⟨bl, 3, none⟩ = some (.func (.func 135) #[] #[.pointer (some ⟨b4, 0, none⟩)])
  x1 : Var6 wx b1 (.int .i64 r.tm) (.int .i64 r.vt) (.int .i64 r.si) (.int .i64 r.st) (.slice ay r.sn.length cy) (.slice az r.lg.length cz)
  x2 : Var6 wx b2 (.int .i64 r.tm) (.int .i64 r.vt) (.int .i64 r.si) (.int .i64 r.st) (.slice ay r.sn.length cy) (.slice az r.lg.length cz)
  x3 : Var6 wx b3 (.int .i64 r.tm) (.int .i64 r.vt) (.int .i64 r.si) (.int .i64 r.st) (.slice ay r.sn.length cy) (.slice az r.lg.length cz)
  x4 : Var6 wx b4 (.int .i64 r.tm) (.int .i64 r.vt) (.int .i64 r.si) (.int .i64 r.st) (.slice ay r.sn.length cy) (.slice az r.lg.length cz)
  g0 : W0.heap.size ≤ bl
  g1 : W0.heap.size ≤ b1
  g2 : W0.heap.size ≤ b2
  g3 : W0.heap.size ≤ b3
  g4 : W0.heap.size ≤ b4
set_option maxRecDepth 100000 in
set_option maxHeartbeats 16000000 in
theorem storeSeq {S T : Nat → Prop} {w : World} {Bp : Nat} {y z : Value} (r : Rf) (v0 : w.cell? ⟨Bp, 0, none⟩ = some (.int .i64 r.tm)) (v1 : w.cell? ⟨Bp, 1, none⟩ = some (.int .i64 r.vt)) (v2 : w.cell? ⟨Bp, 2, none⟩ = some (.int .i64 r.si)) (v3 : w.cell? ⟨Bp, 3, none⟩ = some (.int .i64 r.st)) (v4 : w.cell? ⟨Bp, 4, none⟩ = some y) (v5 : w.cell? ⟨Bp, 5, none⟩ = some z)
    (hy : RdI S w y r.sn) (hz : RdJ T w z r.lg) (hl : r.sn.length ≤ 40) (hlg : r.lg.length ≤ 1048576) (hS : ∀ b, S b → b < w.heap.size) (hT : ∀ b, T b → b < w.heap.size) (m : Nat) :
    SeqG m Tryz.prog 83 #[.pointer (some ⟨Bp, 0, none⟩)] (fun b => S b ∨ T b) (flP r ++ meP r ++ snP r ++ enP r) w := fun l J Jx D0 W hW hD hJ hJx hJo hJxo hJb hY h0 => by
  obtain ⟨ay, cy, rfl⟩ := hy.shape
  obtain ⟨az, cz, rfl, _⟩ := hz.shape
  obtain ⟨W0, hW0⟩ : ∃ W0, W.alloc (.cells #[.func (.yield l) #[] #[]] 126) = W0 := ⟨_, rfl⟩
  have hbW : Below W.heap.size W W0 := by rw [← hW0]; exact below_alloc _ _
  have hs0 : W0.heap.size = W.heap.size + 1 := by rw [← hW0]; simp
  have yb : W0.cell? ⟨W.heap.size, 0, none⟩ = some (.func (.yield l) #[] #[]) := by rw [← hW0]; simp [go_sem]
  have u0 := cell_later hbW (cell_later hW v0)
  have u1 := cell_later hbW (cell_later hW v1)
  have u2 := cell_later hbW (cell_later hW v2)
  have u3 := cell_later hbW (cell_later hW v3)
  have u4 := cell_later hbW (cell_later hW v4)
  have u5 := cell_later hbW (cell_later hW v5)
  refine callsIn_of_wp_marks Tryz.func83 rfl trivial ?_ rfl
  simp only [Tryz.ntmps83, List.size_toArray, List.length_cons, List.length_nil, Nat.reduceAdd, Nat.reduceSub, Array.replicate_succ, Array.replicate_zero, List.push_toArray, List.append_toArray, List.nil_append, List.cons_append]
  refine wpIn_wide.2 ?_
  have HBc := hide (below_drewN W0 1)
  have HYB := hide yb
  have HYd := hide hY
  have HJ := hide hJ
  have HJx := hide hJx
  have HJo := hide hJo
  have HJxo := hide hJxo
  have HJb := hide hJb
  have H0 := hide h0
  have HD := hide hD
  have HBW := hide hbW
  have HY0 := hide ((hy.later hW).later hbW)
  have HZ0 := hide ((hz.later hW).later hbW)
  have hsW := hW.size
  clear v0 v1 v2 v3 v4 v5 hY hJ hJx hJo hJxo hJb h0 hD hy hz hbW hW yb
  go_upto_region 1 with fail
  (try rw [hW0])
  clear hW0
  go_cut [14, 15, 16] from 6 to 16 (fun s14 s15 s16 wx => ∃ bl b1 b2 b3 b4 : Nat, s14 = .slice (some ⟨bl, 0, none⟩) 4 4 ∧ s15 = .int .i64 4 ∧ s16 = .int .i64 0 ∧ Hid (RowG r ay cy az cz W0 bl b1 b2 b3 b4 wx))
  case first =>
    go_region_held3 (fun w' => w'.cell? ⟨Bp, 0, none⟩ = some (.int .i64 r.tm) ∧ w'.cell? ⟨Bp, 1, none⟩ = some (.int .i64 r.vt) ∧ w'.cell? ⟨Bp, 2, none⟩ = some (.int .i64 r.si) ∧ w'.cell? ⟨Bp, 3, none⟩ = some (.int .i64 r.st) ∧ w'.cell? ⟨Bp, 4, none⟩ = some (.slice ay r.sn.length cy) ∧ w'.cell? ⟨Bp, 5, none⟩ = some (.slice az r.lg.length cz)) (first | exact ⟨u0, u1, u2, u3, u4, u5⟩ | exact ⟨cell_later (below_alloc _ _) u0, cell_later (below_alloc _ _) u1, cell_later (below_alloc _ _) u2, cell_later (below_alloc _ _) u3, cell_later (below_alloc _ _) u4, cell_later (below_alloc _ _) u5⟩)
      (first
        | (go_at_call 84; refine (fileBlocksM _ _ _ _ _ _ _ _ _ _ _).mono ?_; rintro e w5 ⟨rfl, hb5, hv5⟩; have hgg := HBc.out.size; have HV1 := hide (And.intro hv5 hgg); (try (have HVn := hide (HV2.out.1.later hb5); have HVg := HV2.out.2; clear HV2; have HV2 := hide (And.intro HVn.out HVg); clear HVn HVg)); (try (have HVn := hide (HV3.out.1.later hb5); have HVg := HV3.out.2; clear HV3; have HV3 := hide (And.intro HVn.out HVg); clear HVn HVg)); (try (have HVn := hide (HV4.out.1.later hb5); have HVg := HV4.out.2; clear HV4; have HV4 := hide (And.intro HVn.out HVg); clear HVn HVg)); have u0 := cell_later hb5 u0; have u1 := cell_later hb5 u1; have u2 := cell_later hb5 u2; have u3 := cell_later hb5 u3; have u4 := cell_later hb5 u4; have u5 := cell_later hb5 u5; have HB5 := hide (below_on HBc.out hb5); clear HBc; have HBc := HB5; clear HB5 hb5 hv5 hgg)
        | (go_at_call 85; refine (metaBlockM _ _ _ _ _ _ _ _ _ _ _).mono ?_; rintro e w5 ⟨rfl, hb5, hv5⟩; have hgg := HBc.out.size; have HV2 := hide (And.intro hv5 hgg); (try (have HVn := hide (HV1.out.1.later hb5); have HVg := HV1.out.2; clear HV1; have HV1 := hide (And.intro HVn.out HVg); clear HVn HVg)); (try (have HVn := hide (HV3.out.1.later hb5); have HVg := HV3.out.2; clear HV3; have HV3 := hide (And.intro HVn.out HVg); clear HVn HVg)); (try (have HVn := hide (HV4.out.1.later hb5); have HVg := HV4.out.2; clear HV4; have HV4 := hide (And.intro HVn.out HVg); clear HVn HVg)); have u0 := cell_later hb5 u0; have u1 := cell_later hb5 u1; have u2 := cell_later hb5 u2; have u3 := cell_later hb5 u3; have u4 := cell_later hb5 u4; have u5 := cell_later hb5 u5; have HB5 := hide (below_on HBc.out hb5); clear HBc; have HBc := HB5; clear HB5 hb5 hv5 hgg)
        | (go_at_call 86; refine (snapBlocksM _ _ _ _ _ _ _ _ _ _ _).mono ?_; rintro e w5 ⟨rfl, hb5, hv5⟩; have hgg := HBc.out.size; have HV3 := hide (And.intro hv5 hgg); (try (have HVn := hide (HV1.out.1.later hb5); have HVg := HV1.out.2; clear HV1; have HV1 := hide (And.intro HVn.out HVg); clear HVn HVg)); (try (have HVn := hide (HV2.out.1.later hb5); have HVg := HV2.out.2; clear HV2; have HV2 := hide (And.intro HVn.out HVg); clear HVn HVg)); (try (have HVn := hide (HV4.out.1.later hb5); have HVg := HV4.out.2; clear HV4; have HV4 := hide (And.intro HVn.out HVg); clear HVn HVg)); have u0 := cell_later hb5 u0; have u1 := cell_later hb5 u1; have u2 := cell_later hb5 u2; have u3 := cell_later hb5 u3; have u4 := cell_later hb5 u4; have u5 := cell_later hb5 u5; have HB5 := hide (below_on HBc.out hb5); clear HBc; have HBc := HB5; clear HB5 hb5 hv5 hgg)
        | (go_at_call 87; refine (entryBlocksM _ _ _ _ _ _ _ _ _ _ _).mono ?_; rintro e w5 ⟨rfl, hb5, hv5⟩; have hgg := HBc.out.size; have HV4 := hide (And.intro hv5 hgg); (try (have HVn := hide (HV1.out.1.later hb5); have HVg := HV1.out.2; clear HV1; have HV1 := hide (And.intro HVn.out HVg); clear HVn HVg)); (try (have HVn := hide (HV2.out.1.later hb5); have HVg := HV2.out.2; clear HV2; have HV2 := hide (And.intro HVn.out HVg); clear HVn HVg)); (try (have HVn := hide (HV3.out.1.later hb5); have HVg := HV3.out.2; clear HV3; have HV3 := hide (And.intro HVn.out HVg); clear HVn HVg)); have u0 := cell_later hb5 u0; have u1 := cell_later hb5 u1; have u2 := cell_later hb5 u2; have u3 := cell_later hb5 u3; have u4 := cell_later hb5 u4; have u5 := cell_later hb5 u5; have HB5 := hide (below_on HBc.out hb5); clear HBc; have HBc := HB5; clear HB5 hb5 hv5 hgg))
    all_goals
      go_wp2_with fail
      go_meet
      case rel => exact ⟨_, _, _, _, _, rfl, rfl, rfl, ⟨below_on HBc.out (below_alloc _ _), by simp [go_sem], by simp [go_sem], by simp [go_sem], by simp [go_sem], HV1.out.1.later (below_alloc _ _), HV2.out.1.later (below_alloc _ _), HV3.out.1.later (below_alloc _ _), HV4.out.1.later (below_alloc _ _), HBc.out.size, HV1.out.2, HV2.out.2, HV3.out.2, HV4.out.2⟩⟩
  case rest =>
    obtain ⟨bl, b1, b2, b3, b4, rfl, rfl, rfl, HR⟩ := hcut
    have hr := HR.out
    have hs1 := hr.below.size
    obtain ⟨C, hC⟩ : ∃ C : List (Nat × Nat × Value), C = [(W.heap.size, 0, .func (.yield l) #[] #[]), (bl, 0, .func (.func 127) #[] #[.pointer (some ⟨b1, 0, none⟩)]), (bl, 1, .func (.func 132) #[] #[.pointer (some ⟨b2, 0, none⟩)]), (bl, 2, .func (.func 133) #[] #[.pointer (some ⟨b3, 0, none⟩)]), (bl, 3, .func (.func 135) #[] #[.pointer (some ⟨b4, 0, none⟩)])] ++ [(b1, 0, .int .i64 r.tm), (b1, 1, .int .i64 r.vt), (b1, 2, .int .i64 r.si), (b1, 3, .int .i64 r.st), (b1, 4, .slice ay r.sn.length cy), (b1, 5, .slice az r.lg.length cz), (b2, 0, .int .i64 r.tm), (b2, 1, .int .i64 r.vt), (b2, 2, .int .i64 r.si), (b2, 3, .int .i64 r.st), (b2, 4, .slice ay r.sn.length cy), (b2, 5, .slice az r.lg.length cz), (b3, 0, .int .i64 r.tm), (b3, 1, .int .i64 r.vt), (b3, 2, .int .i64 r.si), (b3, 3, .int .i64 r.st), (b3, 4, .slice ay r.sn.length cy), (b3, 5, .slice az r.lg.length cz), (b4, 0, .int .i64 r.tm), (b4, 1, .int .i64 r.vt), (b4, 2, .int .i64 r.si), (b4, 3, .int .i64 r.st), (b4, 4, .slice ay r.sn.length cy), (b4, 5, .slice az r.lg.length cz)] := ⟨_, rfl⟩
    have hK : KeepG S T C [] (.slice ay r.sn.length cy) (.slice az r.lg.length cz) r.sn r.lg wc := by
      refine ⟨HY0.out.later hr.below, HZ0.out.later hr.below, fun p hp => ?_, fun b hb => absurd hb (by simp)⟩
      rw [hC] at hp
      simp only [List.cons_append, List.nil_append, List.mem_cons, List.not_mem_nil, or_false] at hp
      rcases hp with rfl | rfl | rfl | rfl | rfl | rfl | rfl | rfl | rfl | rfl | rfl | rfl | rfl | rfl | rfl | rfl | rfl | rfl | rfl | rfl | rfl | rfl | rfl | rfl | rfl | rfl | rfl | rfl | rfl
      · exact cell_later hr.below HYB.out
      · exact hr.c0
      · exact hr.c1
      · exact hr.c2
      · exact hr.c3
      · exact hr.x1.1
      · exact hr.x1.2.1
      · exact hr.x1.2.2.1
      · exact hr.x1.2.2.2.1
      · exact hr.x1.2.2.2.2.1
      · exact hr.x1.2.2.2.2.2
      · exact hr.x2.1
      · exact hr.x2.2.1
      · exact hr.x2.2.2.1
      · exact hr.x2.2.2.2.1
      · exact hr.x2.2.2.2.2.1
      · exact hr.x2.2.2.2.2.2
      · exact hr.x3.1
      · exact hr.x3.2.1
      · exact hr.x3.2.2.1
      · exact hr.x3.2.2.2.1
      · exact hr.x3.2.2.2.2.1
      · exact hr.x3.2.2.2.2.2
      · exact hr.x4.1
      · exact hr.x4.2.1
      · exact hr.x4.2.2.1
      · exact hr.x4.2.2.2.1
      · exact hr.x4.2.2.2.2.1
      · exact hr.x4.2.2.2.2.2
    have hCb : ∀ p, p ∈ C → W.heap.size ≤ p.1 := by
      intro p hp
      have g0 := hr.g0
      have g1 := hr.g1
      have g2 := hr.g2
      have g3 := hr.g3
      have g4 := hr.g4
      rw [hC] at hp
      simp only [List.cons_append, List.nil_append, List.mem_cons, List.not_mem_nil, or_false] at hp
      rcases hp with rfl | rfl | rfl | rfl | rfl | rfl | rfl | rfl | rfl | rfl | rfl | rfl | rfl | rfl | rfl | rfl | rfl | rfl | rfl | rfl | rfl | rfl | rfl | rfl | rfl | rfl | rfl | rfl | rfl <;> (dsimp only; omega)
    have hq0 : ∀ k, k < (flP r).length → 0 + k < (flP r ++ meP r ++ snP r ++ enP r).length ∧ (flP r ++ meP r ++ snP r ++ enP r).getD (0 + k) (0, []) = (flP r).getD k (0, []) := fun k hk => cat_at [] (flP r) (meP r ++ snP r ++ enP r) k hk (by simp)
    have hq1 : ∀ k, k < (meP r).length → (flP r).length + k < (flP r ++ meP r ++ snP r ++ enP r).length ∧ (flP r ++ meP r ++ snP r ++ enP r).getD ((flP r).length + k) (0, []) = (meP r).getD k (0, []) := fun k hk => cat_at (flP r) (meP r) (snP r ++ enP r) k hk (by simp)
    have hq2 : ∀ k, k < (snP r).length → ((flP r).length + (meP r).length) + k < (flP r ++ meP r ++ snP r ++ enP r).length ∧ (flP r ++ meP r ++ snP r ++ enP r).getD (((flP r).length + (meP r).length) + k) (0, []) = (snP r).getD k (0, []) := fun k hk => by have := cat_at (ws := flP r ++ meP r ++ snP r ++ enP r) (flP r ++ meP r) (snP r) (enP r) k hk (by simp); rwa [List.length_append] at this
    have hq3 : ∀ k, k < (enP r).length → ((flP r).length + (meP r).length + (snP r).length) + k < (flP r ++ meP r ++ snP r ++ enP r).length ∧ (flP r ++ meP r ++ snP r ++ enP r).getD (((flP r).length + (meP r).length + (snP r).length) + k) (0, []) = (enP r).getD k (0, []) := fun k hk => by have := cat_at (ws := flP r ++ meP r ++ snP r ++ enP r) (flP r ++ meP r ++ snP r) (enP r) [] k hk (by simp); rwa [List.length_append, List.length_append] at this
    have HQ0 := hide hq0
    have HQ1 := hide hq1
    have HQ2 := hide hq2
    have HQ3 := hide hq3
    have HP0 : Hid (PartI J S T C [] [] (.slice ay r.sn.length cy) (.slice az r.lg.length cz) r.sn r.lg 0 D0 0 wc) := ⟨HJ.out _ _ _ _ H0.out (below_on HBW.out hr.below), fun b hb => by have h1 := HJb.out _ _ _ H0.out b hb; have h2 := HD.out b hb; have h3 := HBW.out.size; exact ⟨by omega, ⟨fun h => h2 (.inl h), fun h => h2 (.inr h), fun p hp e => by have := hCb p hp; omega, by simp⟩, by simp⟩, hK⟩
    have hwW : W.heap.size + 1 ≤ wc.heap.size := by omega
    have HCm := hide hC
    have HCb := hide hCb
    clear hq0 hq1 hq2 hq3 HR hr hK hC hCb H0 HD HY0 HZ0 HYB HBW u0 u1 u2 u3 u4 u5
    go_wp2
    refine (wpIn_wide (n := m)).1 ?_
    refine wpIn_loop_rounds 5 ?_
    obtain ⟨hJ0, hD0, hK0⟩ := HP0.out
    have hE0 : ∀ b, b ∈ ([] : List Nat) → b < wc.heap.size := fun b hb => (Array.getElem?_eq_some_iff.1 (hK0.dl b hb)).1
    have cb0 := hK0.cl (bl, 0, .func (.func 127) #[] #[.pointer (some ⟨b1, 0, none⟩)]) (by rw [HCm.out]; simp)
    dsimp only at cb0
    have x00 := hK0.cl (b1, 0, .int .i64 r.tm) (by rw [HCm.out]; simp)
    dsimp only at x00
    have x01 := hK0.cl (b1, 1, .int .i64 r.vt) (by rw [HCm.out]; simp)
    dsimp only at x01
    have x02 := hK0.cl (b1, 2, .int .i64 r.si) (by rw [HCm.out]; simp)
    dsimp only at x02
    have x03 := hK0.cl (b1, 3, .int .i64 r.st) (by rw [HCm.out]; simp)
    dsimp only at x03
    have x04 := hK0.cl (b1, 4, .slice ay r.sn.length cy) (by rw [HCm.out]; simp)
    dsimp only at x04
    have x05 := hK0.cl (b1, 5, .slice az r.lg.length cz) (by rw [HCm.out]; simp)
    dsimp only at x05
    have SQ0 := hide (fileSeq r x00 x01 x02 x03 x04 x05 hK0.rd hK0.rj hl (fun b => S b ∨ T b) (m - 1))
    have HDi0 := hide hD0
    have HKi0 := hide hK0
    have HJi0 := hide hJ0
    clear x00 x01 x02 x03 x04 x05 hJ0 hD0 hK0
    change Code.wpIn _ _ _ _ _ _ _
    gi_wp2
    refine wpIn_rangeFunc_G (n := m) 74 (gf := 127) (lb := #[.pointer (some ⟨b1, 0, none⟩)]) rfl (enters_of Tryz.func127 (by kernel_rfl) rfl) SQ0.out (Below.refl _ _) rfl (PartI J S T C [] [wc.heap.size, wc.heap.size + 1] (.slice ay r.sn.length cy) (.slice az r.lg.length cz) r.sn r.lg 0) (fun c Wx => c = .ret ∧ Jx Wx ∧ ∀ b, b ∈ ([] : List Nat) → Wx.heap[b]? = some (.deferred (some []))) D0
      (fun D k A B h hb => ⟨HJ.out _ _ _ _ h.1 hb, fun b hb2 => ⟨Nat.lt_of_lt_of_le (h.2.1 b hb2).1 hb.size, (h.2.1 b hb2).2⟩, h.2.2.later hb⟩)
      (fun D k A l' q q' hl' h hr hq hq' => ⟨HJo.out _ _ _ _ _ _ (by omega) h.1 hr hq hq', fun b hb2 => ⟨Nat.lt_of_lt_of_le (h.2.1 b hb2).1 (wr_mark hr hq hq').size, (h.2.1 b hb2).2⟩, h.2.2.noloop hr hq hq' (fun hm => by have := hE0 _ hm; omega)⟩)
      (fun c A B h hb => ⟨h.1, HJx.out _ _ h.2.1 hb, fun b hb2 => (hb.block b (Array.getElem?_eq_some_iff.1 (h.2.2 b hb2)).1).trans (h.2.2 b hb2)⟩)
      (fun c A l' q q' hl' h hr hq hq' => ⟨h.1, HJxo.out _ _ _ _ (by omega) h.2.1 hr hq hq', fun b hb2 => (World.putObj_heap_other (fun (e : b = l') => by have := hE0 b hb2; omega)).trans (h.2.2 b hb2)⟩)
      (fun D k A h b hb => by have h1 := h.2.1 b hb; simp only [List.mem_cons, List.not_mem_nil, or_false, not_or] at h1; exact ⟨h1.1, h1.2.2.1, h1.2.2.2⟩) (fun b hb hr => by rcases hr with h | h; exact (HDi0.out b hb).2.1.1 h; exact (HDi0.out b hb).2.1.2.1 h) (fun b hr => by rcases hr with h | h; (have := hS b h; omega); (have := hT b h; omega))
      ⟨HJi0.out, fun b hb => by have h1 := HDi0.out b hb; exact ⟨h1.1, h1.2.1, by simp only [List.mem_cons, List.not_mem_nil, or_false, not_or]; omega⟩, HKi0.out⟩
      (fun x v Bx => { tmps := #[.func (.yield l) #[] #[], .pointer (some ⟨Bp, 0, none⟩), .pointer (some ⟨W.heap.size, 0, none⟩), undef, .func (.func 127) #[] #[.pointer (some ⟨b1, 0, none⟩)], .pointer (some ⟨Bx, 0, none⟩), u6, u7, u8, u9, u10, u11, u12, u13, .slice (some ⟨bl, 0, none⟩) 4 4, .int .i64 4, .int .i64 0, .bool true, .pointer (some ⟨bl, 0, none⟩), .func (.func 127) #[] #[.pointer (some ⟨b1, 0, none⟩)], .func (.func 127) #[] #[.pointer (some ⟨b1, 0, none⟩)], .agg #[.int .i64 x, v], undef, undef, undef, undef, undef], defers := [] }) ?assign0 ?body0 ?done0 ?stop0
    case assign0 =>
      rintro x v B K ⟨ao, n, c, rfl⟩ hK
      simp only [encP]
      gi_wp2
      exact hK
    case body0 =>
      rintro D k x v A B Wb hI hAB hk hx hv hwr hsW hAs hIW hrec
      obtain ⟨az2, cz2, hvv⟩ := hv.shape
      have hyd := part_yield (m := m) HJo.out HYd.out HQ0.out hI.1 hAB hk hx hv (by omega) hrec
      obtain ⟨fn, tmps, assign, body, hyy0, hRr⟩ := hyd
      obtain ⟨lv, hlv⟩ : ∃ n, ((flP r).getD k (0, [])).2.length = n := ⟨_, rfl⟩
      rw [hlv] at hvv
      subst hvv
      have hyy : (Instr.yield l #[.agg #[.int .i64 x, .slice az2 lv cz2]]).run Tryz.prog Wb = .ok (.round l fn tmps assign body) Wb := hyy0
      have hp0 : Wb.cell? ⟨B.heap.size, 0, none⟩ = some (.int .i64 x) := cell_wr hwr (by simp [go_sem]) (by have := hAB.size; omega)
      have hp1 : Wb.cell? ⟨B.heap.size, 1, none⟩ = some (.slice az2 lv cz2) := cell_wr hwr (by simp [go_sem]) (by have := hAB.size; omega)
      have hyb := hIW.2.2.cl (W.heap.size, 0, .func (.yield l) #[] #[]) (by rw [HCm.out]; simp)
      dsimp only at hyb
      have hsAB := hAB.size
      have HIW := hide hIW
      have HsW := hide hsW
      clear hI hAB hk hx hv hwr hIW hrec hlv hyy0 hsW
      gi_wp2
      refine ⟨fun h => by simp [Fence.wide] at h, (roundIn_any hRr).mono ?_⟩
      rintro e V3 (⟨rfl, D', hJ3, hk3, hD3⟩ | ⟨rfl, hJx3, hk3⟩)
      · have hs3 := hk3.size
        have hwb := HsW.out
        have HPn : Hid (PartI J S T C [] [wc.heap.size, wc.heap.size + 1] (.slice ay r.sn.length cy) (.slice az r.lg.length cz) r.sn r.lg 0 D' (k + 1) V3) := ⟨hJ3, fun b hb => by
            rcases hD3 b hb with h | h
            · exact ⟨Nat.lt_of_lt_of_le (HIW.out.2.1 b h).1 hs3, (HIW.out.2.1 b h).2⟩
            · refine ⟨HJb.out _ _ _ hJ3 b hb, ⟨fun h9 => by have := hS b h9; omega, fun h9 => by have := hT b h9; omega, fun p hp e => ?_, fun h9 => by have := hE0 b h9; omega⟩, by simp only [List.mem_cons, List.not_mem_nil, or_false, not_or]; omega⟩
              have h9 := World.block_lt_of_cell? _ _ (HIW.out.2.2.cl p hp)
              dsimp only at h9
              omega, HIW.out.2.2.ku hk3 (fun b hb => (HIW.out.2.1 b hb).2.1)⟩
        have HK3 := hide hk3
        have HD3 := hide hD3
        clear hJ3 hk3 hD3
        gi_wp2
        exact ⟨D', HPn.out, HK3.out, HD3.out⟩
      · have HJ3 := hide hJx3
        have HK3 := hide hk3
        have HE3 : Hid (∀ b, b ∈ ([] : List Nat) → V3.heap[b]? = some (.deferred (some []))) := (HIW.out.2.2.ku hk3 (fun b hb => (HIW.out.2.1 b hb).2.1)).dl
        clear hJx3 hk3
        gi_wp2
        exact ⟨HK3.out, rfl, HJ3.out, HE3.out⟩
    case stop0 =>
      rintro c Wd ⟨rfl, hJx3, hdl⟩ hKd
      have HJ3 := hide hJx3
      have HE3 := hide hdl
      clear hJx3 hdl
      gi_wp2
      exact leave_marks (n0 := W.heap.size) (Jc := Jx) (fun A l' q q' h1 h2 h3 h4 h5 => HJxo.out A l' q q' h1 h2 h3 h4 h5) (fun A h => ⟨_, results_none rfl _ _ _, ⟨_, rfl⟩, .inr h⟩) [wc.heap.size] Wd HJ3.out (by simp; try omega) (fun b hb => by
          rcases List.mem_cons.1 hb with h | h
          · subst h; exact ⟨by omega, hKd⟩
          · exact absurd h (by simp))
    case done0 =>
      rintro D1 W1 ⟨hJd, hDd, hKd⟩ hKm
      have hsz1 : wc.heap.size < W1.heap.size := (Array.getElem?_eq_some_iff.1 hKm).1
      have HP1 : Hid (PartI J S T C [wc.heap.size] [] (.slice ay r.sn.length cy) (.slice az r.lg.length cz) r.sn r.lg (flP r).length D1 0 W1) := ⟨by have h := hJd; rw [Nat.zero_add] at h; exact h, fun b hb => by have h1 := hDd b hb; simp only [List.mem_cons, List.not_mem_nil, or_false, not_or] at h1; exact ⟨h1.1, ⟨h1.2.1.1, h1.2.1.2.1, h1.2.1.2.2.1, by intro h9; rcases List.mem_cons.1 h9 with h9 | h9; exact h1.2.2.1 h9; exact absurd h9 (by simp)⟩, by simp⟩, ⟨hKd.rd, hKd.rj, hKd.cl, fun b hb => by rcases List.mem_cons.1 hb with h | h; (rw [h]; exact hKm); exact hKd.dl b h⟩⟩
      clear hJd hDd hKd hKm SQ0 HDi0 HKi0 HJi0 cb0
      gi_wp2
      obtain ⟨hJ1, hD1, hK1⟩ := HP1.out
      have hE1 : ∀ b, b ∈ ([wc.heap.size] : List Nat) → b < W1.heap.size := fun b hb => (Array.getElem?_eq_some_iff.1 (hK1.dl b hb)).1
      have cb1 := hK1.cl (bl, 1, .func (.func 132) #[] #[.pointer (some ⟨b2, 0, none⟩)]) (by rw [HCm.out]; simp)
      dsimp only at cb1
      have x10 := hK1.cl (b2, 0, .int .i64 r.tm) (by rw [HCm.out]; simp)
      dsimp only at x10
      have x11 := hK1.cl (b2, 1, .int .i64 r.vt) (by rw [HCm.out]; simp)
      dsimp only at x11
      have x12 := hK1.cl (b2, 2, .int .i64 r.si) (by rw [HCm.out]; simp)
      dsimp only at x12
      have x13 := hK1.cl (b2, 3, .int .i64 r.st) (by rw [HCm.out]; simp)
      dsimp only at x13
      have x14 := hK1.cl (b2, 4, .slice ay r.sn.length cy) (by rw [HCm.out]; simp)
      dsimp only at x14
      have x15 := hK1.cl (b2, 5, .slice az r.lg.length cz) (by rw [HCm.out]; simp)
      dsimp only at x15
      have SQ1 := hide (metaSeq r x10 x11 x12 x13 x15 (fun b => S b ∨ T b) (m - 1))
      have HDi1 := hide hD1
      have HKi1 := hide hK1
      have HJi1 := hide hJ1
      clear x10 x11 x12 x13 x14 x15 hJ1 hD1 hK1
      change Code.wpIn _ _ _ _ _ _ _
      gi_wp2
      refine wpIn_rangeFunc_G (n := m) 74 (gf := 132) (lb := #[.pointer (some ⟨b2, 0, none⟩)]) rfl (enters_of Tryz.func132 (by kernel_rfl) rfl) SQ1.out (Below.refl _ _) rfl (PartI J S T C [wc.heap.size] [W1.heap.size, W1.heap.size + 1] (.slice ay r.sn.length cy) (.slice az r.lg.length cz) r.sn r.lg (flP r).length) (fun c Wx => c = .ret ∧ Jx Wx ∧ ∀ b, b ∈ ([wc.heap.size] : List Nat) → Wx.heap[b]? = some (.deferred (some []))) D1
        (fun D k A B h hb => ⟨HJ.out _ _ _ _ h.1 hb, fun b hb2 => ⟨Nat.lt_of_lt_of_le (h.2.1 b hb2).1 hb.size, (h.2.1 b hb2).2⟩, h.2.2.later hb⟩)
        (fun D k A l' q q' hl' h hr hq hq' => ⟨HJo.out _ _ _ _ _ _ (by omega) h.1 hr hq hq', fun b hb2 => ⟨Nat.lt_of_lt_of_le (h.2.1 b hb2).1 (wr_mark hr hq hq').size, (h.2.1 b hb2).2⟩, h.2.2.noloop hr hq hq' (fun hm => by have := hE1 _ hm; omega)⟩)
        (fun c A B h hb => ⟨h.1, HJx.out _ _ h.2.1 hb, fun b hb2 => (hb.block b (Array.getElem?_eq_some_iff.1 (h.2.2 b hb2)).1).trans (h.2.2 b hb2)⟩)
        (fun c A l' q q' hl' h hr hq hq' => ⟨h.1, HJxo.out _ _ _ _ (by omega) h.2.1 hr hq hq', fun b hb2 => (World.putObj_heap_other (fun (e : b = l') => by have := hE1 b hb2; omega)).trans (h.2.2 b hb2)⟩)
        (fun D k A h b hb => by have h1 := h.2.1 b hb; simp only [List.mem_cons, List.not_mem_nil, or_false, not_or] at h1; exact ⟨h1.1, h1.2.2.1, h1.2.2.2⟩) (fun b hb hr => by rcases hr with h | h; exact (HDi1.out b hb).2.1.1 h; exact (HDi1.out b hb).2.1.2.1 h) (fun b hr => by rcases hr with h | h; (have := hS b h; omega); (have := hT b h; omega))
        ⟨HJi1.out, fun b hb => by have h1 := HDi1.out b hb; exact ⟨h1.1, h1.2.1, by simp only [List.mem_cons, List.not_mem_nil, or_false, not_or]; omega⟩, HKi1.out⟩
        (fun x v Bx => { tmps := #[.func (.yield l) #[] #[], .pointer (some ⟨Bp, 0, none⟩), .pointer (some ⟨W.heap.size, 0, none⟩), undef, .func (.func 132) #[] #[.pointer (some ⟨b2, 0, none⟩)], .pointer (some ⟨Bx, 0, none⟩), u6, u7, u8, u9, u10, u11, u12, u13, .slice (some ⟨bl, 0, none⟩) 4 4, .int .i64 4, .int .i64 1, .bool true, .pointer (some ⟨bl, 1, none⟩), .func (.func 132) #[] #[.pointer (some ⟨b2, 0, none⟩)], .func (.func 132) #[] #[.pointer (some ⟨b2, 0, none⟩)], .agg #[.int .i64 x, v], undef, undef, undef, undef, .int .i64 1], defers := [] }) ?assign1 ?body1 ?done1 ?stop1
      case assign1 =>
        rintro x v B K ⟨ao, n, c, rfl⟩ hK
        simp only [encP]
        gi_wp2
        exact hK
      case body1 =>
        rintro D k x v A B Wb hI hAB hk hx hv hwr hsW hAs hIW hrec
        obtain ⟨az2, cz2, hvv⟩ := hv.shape
        have hyd := part_yield (m := m) HJo.out HYd.out HQ1.out hI.1 hAB hk hx hv (by omega) hrec
        obtain ⟨fn, tmps, assign, body, hyy0, hRr⟩ := hyd
        obtain ⟨lv, hlv⟩ : ∃ n, ((meP r).getD k (0, [])).2.length = n := ⟨_, rfl⟩
        rw [hlv] at hvv
        subst hvv
        have hyy : (Instr.yield l #[.agg #[.int .i64 x, .slice az2 lv cz2]]).run Tryz.prog Wb = .ok (.round l fn tmps assign body) Wb := hyy0
        have hp0 : Wb.cell? ⟨B.heap.size, 0, none⟩ = some (.int .i64 x) := cell_wr hwr (by simp [go_sem]) (by have := hAB.size; omega)
        have hp1 : Wb.cell? ⟨B.heap.size, 1, none⟩ = some (.slice az2 lv cz2) := cell_wr hwr (by simp [go_sem]) (by have := hAB.size; omega)
        have hyb := hIW.2.2.cl (W.heap.size, 0, .func (.yield l) #[] #[]) (by rw [HCm.out]; simp)
        dsimp only at hyb
        have hsAB := hAB.size
        have HIW := hide hIW
        have HsW := hide hsW
        clear hI hAB hk hx hv hwr hIW hrec hlv hyy0 hsW
        gi_wp2
        refine ⟨fun h => by simp [Fence.wide] at h, (roundIn_any hRr).mono ?_⟩
        rintro e V3 (⟨rfl, D', hJ3, hk3, hD3⟩ | ⟨rfl, hJx3, hk3⟩)
        · have hs3 := hk3.size
          have hwb := HsW.out
          have HPn : Hid (PartI J S T C [wc.heap.size] [W1.heap.size, W1.heap.size + 1] (.slice ay r.sn.length cy) (.slice az r.lg.length cz) r.sn r.lg (flP r).length D' (k + 1) V3) := ⟨hJ3, fun b hb => by
              rcases hD3 b hb with h | h
              · exact ⟨Nat.lt_of_lt_of_le (HIW.out.2.1 b h).1 hs3, (HIW.out.2.1 b h).2⟩
              · refine ⟨HJb.out _ _ _ hJ3 b hb, ⟨fun h9 => by have := hS b h9; omega, fun h9 => by have := hT b h9; omega, fun p hp e => ?_, fun h9 => by have := hE1 b h9; omega⟩, by simp only [List.mem_cons, List.not_mem_nil, or_false, not_or]; omega⟩
                have h9 := World.block_lt_of_cell? _ _ (HIW.out.2.2.cl p hp)
                dsimp only at h9
                omega, HIW.out.2.2.ku hk3 (fun b hb => (HIW.out.2.1 b hb).2.1)⟩
          have HK3 := hide hk3
          have HD3 := hide hD3
          clear hJ3 hk3 hD3
          gi_wp2
          exact ⟨D', HPn.out, HK3.out, HD3.out⟩
        · have HJ3 := hide hJx3
          have HK3 := hide hk3
          have HE3 : Hid (∀ b, b ∈ ([wc.heap.size] : List Nat) → V3.heap[b]? = some (.deferred (some []))) := (HIW.out.2.2.ku hk3 (fun b hb => (HIW.out.2.1 b hb).2.1)).dl
          clear hJx3 hk3
          gi_wp2
          exact ⟨HK3.out, rfl, HJ3.out, HE3.out⟩
      case stop1 =>
        rintro c Wd ⟨rfl, hJx3, hdl⟩ hKd
        have HJ3 := hide hJx3
        have HE3 := hide hdl
        clear hJx3 hdl
        gi_wp2
        exact leave_marks (n0 := W.heap.size) (Jc := Jx) (fun A l' q q' h1 h2 h3 h4 h5 => HJxo.out A l' q q' h1 h2 h3 h4 h5) (fun A h => ⟨_, results_none rfl _ _ _, ⟨_, rfl⟩, .inr h⟩) [W1.heap.size, wc.heap.size] Wd HJ3.out (by simp; try omega) (fun b hb => by
            rcases List.mem_cons.1 hb with h | h
            · subst h; exact ⟨by omega, hKd⟩
            · exact ⟨by simp only [List.mem_cons, List.not_mem_nil, or_false] at h; omega, HE3.out b h⟩)
      case done1 =>
        rintro D2 W2 ⟨hJd, hDd, hKd⟩ hKm
        have hsz2 : W1.heap.size < W2.heap.size := (Array.getElem?_eq_some_iff.1 hKm).1
        have hDd_E := fun b hb => (hDd b hb).2.1.2.2.2
        have HP2 : Hid (PartI J S T C [W1.heap.size, wc.heap.size] [] (.slice ay r.sn.length cy) (.slice az r.lg.length cz) r.sn r.lg ((flP r).length + (meP r).length) D2 0 W2) := ⟨hJd, fun b hb => by have h1 := hDd b hb; simp only [List.mem_cons, List.not_mem_nil, or_false, not_or] at h1; exact ⟨h1.1, ⟨h1.2.1.1, h1.2.1.2.1, h1.2.1.2.2.1, by intro h9; rcases List.mem_cons.1 h9 with h9 | h9; exact h1.2.2.1 h9; exact hDd_E b hb h9⟩, by simp⟩, ⟨hKd.rd, hKd.rj, hKd.cl, fun b hb => by rcases List.mem_cons.1 hb with h | h; (rw [h]; exact hKm); exact hKd.dl b h⟩⟩
        clear hJd hDd hKd hKm SQ1 HDi1 HKi1 HJi1 cb1
        gi_wp2
        obtain ⟨hJ2, hD2, hK2⟩ := HP2.out
        have hE2 : ∀ b, b ∈ ([W1.heap.size, wc.heap.size] : List Nat) → b < W2.heap.size := fun b hb => (Array.getElem?_eq_some_iff.1 (hK2.dl b hb)).1
        have cb2 := hK2.cl (bl, 2, .func (.func 133) #[] #[.pointer (some ⟨b3, 0, none⟩)]) (by rw [HCm.out]; simp)
        dsimp only at cb2
        have x20 := hK2.cl (b3, 0, .int .i64 r.tm) (by rw [HCm.out]; simp)
        dsimp only at x20
        have x21 := hK2.cl (b3, 1, .int .i64 r.vt) (by rw [HCm.out]; simp)
        dsimp only at x21
        have x22 := hK2.cl (b3, 2, .int .i64 r.si) (by rw [HCm.out]; simp)
        dsimp only at x22
        have x23 := hK2.cl (b3, 3, .int .i64 r.st) (by rw [HCm.out]; simp)
        dsimp only at x23
        have x24 := hK2.cl (b3, 4, .slice ay r.sn.length cy) (by rw [HCm.out]; simp)
        dsimp only at x24
        have x25 := hK2.cl (b3, 5, .slice az r.lg.length cz) (by rw [HCm.out]; simp)
        dsimp only at x25
        have SQ2 := hide (snapSeq r x20 x21 x22 x23 x24 x25 hK2.rd hK2.rj hl hK2.rd.capW (fun b hb => by have := hS b hb; omega) (m - 1))
        have HDi2 := hide hD2
        have HKi2 := hide hK2
        have HJi2 := hide hJ2
        clear x20 x21 x22 x23 x24 x25 hJ2 hD2 hK2
        change Code.wpIn _ _ _ _ _ _ _
        gi_wp2
        refine wpIn_rangeFunc_G (n := m) 74 (gf := 133) (lb := #[.pointer (some ⟨b3, 0, none⟩)]) rfl (enters_of Tryz.func133 (by kernel_rfl) rfl) SQ2.out (Below.refl _ _) rfl (PartI J S T C [W1.heap.size, wc.heap.size] [W2.heap.size, W2.heap.size + 1] (.slice ay r.sn.length cy) (.slice az r.lg.length cz) r.sn r.lg ((flP r).length + (meP r).length)) (fun c Wx => c = .ret ∧ Jx Wx ∧ ∀ b, b ∈ ([W1.heap.size, wc.heap.size] : List Nat) → Wx.heap[b]? = some (.deferred (some []))) D2
          (fun D k A B h hb => ⟨HJ.out _ _ _ _ h.1 hb, fun b hb2 => ⟨Nat.lt_of_lt_of_le (h.2.1 b hb2).1 hb.size, (h.2.1 b hb2).2⟩, h.2.2.later hb⟩)
          (fun D k A l' q q' hl' h hr hq hq' => ⟨HJo.out _ _ _ _ _ _ (by omega) h.1 hr hq hq', fun b hb2 => ⟨Nat.lt_of_lt_of_le (h.2.1 b hb2).1 (wr_mark hr hq hq').size, (h.2.1 b hb2).2⟩, h.2.2.noloop hr hq hq' (fun hm => by have := hE2 _ hm; omega)⟩)
          (fun c A B h hb => ⟨h.1, HJx.out _ _ h.2.1 hb, fun b hb2 => (hb.block b (Array.getElem?_eq_some_iff.1 (h.2.2 b hb2)).1).trans (h.2.2 b hb2)⟩)
          (fun c A l' q q' hl' h hr hq hq' => ⟨h.1, HJxo.out _ _ _ _ (by omega) h.2.1 hr hq hq', fun b hb2 => (World.putObj_heap_other (fun (e : b = l') => by have := hE2 b hb2; omega)).trans (h.2.2 b hb2)⟩)
          (fun D k A h b hb => by have h1 := h.2.1 b hb; simp only [List.mem_cons, List.not_mem_nil, or_false, not_or] at h1; exact ⟨h1.1, h1.2.2.1, h1.2.2.2⟩) (fun b hb hr => (HDi2.out b hb).2.1.1 hr) (fun b hr => by have := hS b hr; omega)
          ⟨HJi2.out, fun b hb => by have h1 := HDi2.out b hb; exact ⟨h1.1, h1.2.1, by simp only [List.mem_cons, List.not_mem_nil, or_false, not_or]; omega⟩, HKi2.out⟩
          (fun x v Bx => { tmps := #[.func (.yield l) #[] #[], .pointer (some ⟨Bp, 0, none⟩), .pointer (some ⟨W.heap.size, 0, none⟩), undef, .func (.func 133) #[] #[.pointer (some ⟨b3, 0, none⟩)], .pointer (some ⟨Bx, 0, none⟩), u6, u7, u8, u9, u10, u11, u12, u13, .slice (some ⟨bl, 0, none⟩) 4 4, .int .i64 4, .int .i64 2, .bool true, .pointer (some ⟨bl, 2, none⟩), .func (.func 133) #[] #[.pointer (some ⟨b3, 0, none⟩)], .func (.func 133) #[] #[.pointer (some ⟨b3, 0, none⟩)], .agg #[.int .i64 x, v], undef, undef, undef, undef, .int .i64 2], defers := [] }) ?assign2 ?body2 ?done2 ?stop2
        case assign2 =>
          rintro x v B K ⟨ao, n, c, rfl⟩ hK
          simp only [encP]
          gi_wp2
          exact hK
        case body2 =>
          rintro D k x v A B Wb hI hAB hk hx hv hwr hsW hAs hIW hrec
          obtain ⟨az2, cz2, hvv⟩ := hv.shape
          have hyd := part_yield (m := m) HJo.out HYd.out HQ2.out hI.1 hAB hk hx hv (by omega) hrec
          obtain ⟨fn, tmps, assign, body, hyy0, hRr⟩ := hyd
          obtain ⟨lv, hlv⟩ : ∃ n, ((snP r).getD k (0, [])).2.length = n := ⟨_, rfl⟩
          rw [hlv] at hvv
          subst hvv
          have hyy : (Instr.yield l #[.agg #[.int .i64 x, .slice az2 lv cz2]]).run Tryz.prog Wb = .ok (.round l fn tmps assign body) Wb := hyy0
          have hp0 : Wb.cell? ⟨B.heap.size, 0, none⟩ = some (.int .i64 x) := cell_wr hwr (by simp [go_sem]) (by have := hAB.size; omega)
          have hp1 : Wb.cell? ⟨B.heap.size, 1, none⟩ = some (.slice az2 lv cz2) := cell_wr hwr (by simp [go_sem]) (by have := hAB.size; omega)
          have hyb := hIW.2.2.cl (W.heap.size, 0, .func (.yield l) #[] #[]) (by rw [HCm.out]; simp)
          dsimp only at hyb
          have hsAB := hAB.size
          have HIW := hide hIW
          have HsW := hide hsW
          clear hI hAB hk hx hv hwr hIW hrec hlv hyy0 hsW
          gi_wp2
          refine ⟨fun h => by simp [Fence.wide] at h, (roundIn_any hRr).mono ?_⟩
          rintro e V3 (⟨rfl, D', hJ3, hk3, hD3⟩ | ⟨rfl, hJx3, hk3⟩)
          · have hs3 := hk3.size
            have hwb := HsW.out
            have HPn : Hid (PartI J S T C [W1.heap.size, wc.heap.size] [W2.heap.size, W2.heap.size + 1] (.slice ay r.sn.length cy) (.slice az r.lg.length cz) r.sn r.lg ((flP r).length + (meP r).length) D' (k + 1) V3) := ⟨hJ3, fun b hb => by
                rcases hD3 b hb with h | h
                · exact ⟨Nat.lt_of_lt_of_le (HIW.out.2.1 b h).1 hs3, (HIW.out.2.1 b h).2⟩
                · refine ⟨HJb.out _ _ _ hJ3 b hb, ⟨fun h9 => by have := hS b h9; omega, fun h9 => by have := hT b h9; omega, fun p hp e => ?_, fun h9 => by have := hE2 b h9; omega⟩, by simp only [List.mem_cons, List.not_mem_nil, or_false, not_or]; omega⟩
                  have h9 := World.block_lt_of_cell? _ _ (HIW.out.2.2.cl p hp)
                  dsimp only at h9
                  omega, HIW.out.2.2.ku hk3 (fun b hb => (HIW.out.2.1 b hb).2.1)⟩
            have HK3 := hide hk3
            have HD3 := hide hD3
            clear hJ3 hk3 hD3
            gi_wp2
            exact ⟨D', HPn.out, HK3.out, HD3.out⟩
          · have HJ3 := hide hJx3
            have HK3 := hide hk3
            have HE3 : Hid (∀ b, b ∈ ([W1.heap.size, wc.heap.size] : List Nat) → V3.heap[b]? = some (.deferred (some []))) := (HIW.out.2.2.ku hk3 (fun b hb => (HIW.out.2.1 b hb).2.1)).dl
            clear hJx3 hk3
            gi_wp2
            exact ⟨HK3.out, rfl, HJ3.out, HE3.out⟩
        case stop2 =>
          rintro c Wd ⟨rfl, hJx3, hdl⟩ hKd
          have HJ3 := hide hJx3
          have HE3 := hide hdl
          clear hJx3 hdl
          gi_wp2
          exact leave_marks (n0 := W.heap.size) (Jc := Jx) (fun A l' q q' h1 h2 h3 h4 h5 => HJxo.out A l' q q' h1 h2 h3 h4 h5) (fun A h => ⟨_, results_none rfl _ _ _, ⟨_, rfl⟩, .inr h⟩) [W2.heap.size, W1.heap.size, wc.heap.size] Wd HJ3.out (by simp; try omega) (fun b hb => by
              rcases List.mem_cons.1 hb with h | h
              · subst h; exact ⟨by omega, hKd⟩
              · exact ⟨by simp only [List.mem_cons, List.not_mem_nil, or_false] at h; omega, HE3.out b h⟩)
        case done2 =>
          rintro D3 W3 ⟨hJd, hDd, hKd⟩ hKm
          have hsz3 : W2.heap.size < W3.heap.size := (Array.getElem?_eq_some_iff.1 hKm).1
          have hDd_E := fun b hb => (hDd b hb).2.1.2.2.2
          have HP3 : Hid (PartI J S T C [W2.heap.size, W1.heap.size, wc.heap.size] [] (.slice ay r.sn.length cy) (.slice az r.lg.length cz) r.sn r.lg ((flP r).length + (meP r).length + (snP r).length) D3 0 W3) := ⟨hJd, fun b hb => by have h1 := hDd b hb; simp only [List.mem_cons, List.not_mem_nil, or_false, not_or] at h1; exact ⟨h1.1, ⟨h1.2.1.1, h1.2.1.2.1, h1.2.1.2.2.1, by intro h9; rcases List.mem_cons.1 h9 with h9 | h9; exact h1.2.2.1 h9; exact hDd_E b hb h9⟩, by simp⟩, ⟨hKd.rd, hKd.rj, hKd.cl, fun b hb => by rcases List.mem_cons.1 hb with h | h; (rw [h]; exact hKm); exact hKd.dl b h⟩⟩
          clear hJd hDd hKd hKm SQ2 HDi2 HKi2 HJi2 cb2
          gi_wp2
          obtain ⟨hJ3, hD3, hK3⟩ := HP3.out
          have hE3 : ∀ b, b ∈ ([W2.heap.size, W1.heap.size, wc.heap.size] : List Nat) → b < W3.heap.size := fun b hb => (Array.getElem?_eq_some_iff.1 (hK3.dl b hb)).1
          have cb3 := hK3.cl (bl, 3, .func (.func 135) #[] #[.pointer (some ⟨b4, 0, none⟩)]) (by rw [HCm.out]; simp)
          dsimp only at cb3
          have x30 := hK3.cl (b4, 0, .int .i64 r.tm) (by rw [HCm.out]; simp)
          dsimp only at x30
          have x31 := hK3.cl (b4, 1, .int .i64 r.vt) (by rw [HCm.out]; simp)
          dsimp only at x31
          have x32 := hK3.cl (b4, 2, .int .i64 r.si) (by rw [HCm.out]; simp)
          dsimp only at x32
          have x33 := hK3.cl (b4, 3, .int .i64 r.st) (by rw [HCm.out]; simp)
          dsimp only at x33
          have x34 := hK3.cl (b4, 4, .slice ay r.sn.length cy) (by rw [HCm.out]; simp)
          dsimp only at x34
          have x35 := hK3.cl (b4, 5, .slice az r.lg.length cz) (by rw [HCm.out]; simp)
          dsimp only at x35
          have SQ3 := hide (entrySeq r x35 hK3.rj hlg (fun b hb => by have := hT b hb; omega) (m - 1))
          have HDi3 := hide hD3
          have HKi3 := hide hK3
          have HJi3 := hide hJ3
          clear x30 x31 x32 x33 x34 x35 hJ3 hD3 hK3
          change Code.wpIn _ _ _ _ _ _ _
          gi_wp2
          refine wpIn_rangeFunc_G (n := m) 74 (gf := 135) (lb := #[.pointer (some ⟨b4, 0, none⟩)]) rfl (enters_of Tryz.func135 (by kernel_rfl) rfl) SQ3.out (Below.refl _ _) rfl (PartI J S T C [W2.heap.size, W1.heap.size, wc.heap.size] [W3.heap.size, W3.heap.size + 1] (.slice ay r.sn.length cy) (.slice az r.lg.length cz) r.sn r.lg ((flP r).length + (meP r).length + (snP r).length)) (fun c Wx => c = .ret ∧ Jx Wx ∧ ∀ b, b ∈ ([W2.heap.size, W1.heap.size, wc.heap.size] : List Nat) → Wx.heap[b]? = some (.deferred (some []))) D3
            (fun D k A B h hb => ⟨HJ.out _ _ _ _ h.1 hb, fun b hb2 => ⟨Nat.lt_of_lt_of_le (h.2.1 b hb2).1 hb.size, (h.2.1 b hb2).2⟩, h.2.2.later hb⟩)
            (fun D k A l' q q' hl' h hr hq hq' => ⟨HJo.out _ _ _ _ _ _ (by omega) h.1 hr hq hq', fun b hb2 => ⟨Nat.lt_of_lt_of_le (h.2.1 b hb2).1 (wr_mark hr hq hq').size, (h.2.1 b hb2).2⟩, h.2.2.noloop hr hq hq' (fun hm => by have := hE3 _ hm; omega)⟩)
            (fun c A B h hb => ⟨h.1, HJx.out _ _ h.2.1 hb, fun b hb2 => (hb.block b (Array.getElem?_eq_some_iff.1 (h.2.2 b hb2)).1).trans (h.2.2 b hb2)⟩)
            (fun c A l' q q' hl' h hr hq hq' => ⟨h.1, HJxo.out _ _ _ _ (by omega) h.2.1 hr hq hq', fun b hb2 => (World.putObj_heap_other (fun (e : b = l') => by have := hE3 b hb2; omega)).trans (h.2.2 b hb2)⟩)
            (fun D k A h b hb => by have h1 := h.2.1 b hb; simp only [List.mem_cons, List.not_mem_nil, or_false, not_or] at h1; exact ⟨h1.1, h1.2.2.1, h1.2.2.2⟩) (fun b hb hr => (HDi3.out b hb).2.1.2.1 hr) (fun b hr => by have := hT b hr; omega)
            ⟨HJi3.out, fun b hb => by have h1 := HDi3.out b hb; exact ⟨h1.1, h1.2.1, by simp only [List.mem_cons, List.not_mem_nil, or_false, not_or]; omega⟩, HKi3.out⟩
            (fun x v Bx => { tmps := #[.func (.yield l) #[] #[], .pointer (some ⟨Bp, 0, none⟩), .pointer (some ⟨W.heap.size, 0, none⟩), undef, .func (.func 135) #[] #[.pointer (some ⟨b4, 0, none⟩)], .pointer (some ⟨Bx, 0, none⟩), u6, u7, u8, u9, u10, u11, u12, u13, .slice (some ⟨bl, 0, none⟩) 4 4, .int .i64 4, .int .i64 3, .bool true, .pointer (some ⟨bl, 3, none⟩), .func (.func 135) #[] #[.pointer (some ⟨b4, 0, none⟩)], .func (.func 135) #[] #[.pointer (some ⟨b4, 0, none⟩)], .agg #[.int .i64 x, v], undef, undef, undef, undef, .int .i64 3], defers := [] }) ?assign3 ?body3 ?done3 ?stop3
          case assign3 =>
            rintro x v B K ⟨ao, n, c, rfl⟩ hK
            simp only [encP]
            gi_wp2
            exact hK
          case body3 =>
            rintro D k x v A B Wb hI hAB hk hx hv hwr hsW hAs hIW hrec
            obtain ⟨az2, cz2, hvv⟩ := hv.shape
            have hyd := part_yield (m := m) HJo.out HYd.out HQ3.out hI.1 hAB hk hx hv (by omega) hrec
            obtain ⟨fn, tmps, assign, body, hyy0, hRr⟩ := hyd
            obtain ⟨lv, hlv⟩ : ∃ n, ((enP r).getD k (0, [])).2.length = n := ⟨_, rfl⟩
            rw [hlv] at hvv
            subst hvv
            have hyy : (Instr.yield l #[.agg #[.int .i64 x, .slice az2 lv cz2]]).run Tryz.prog Wb = .ok (.round l fn tmps assign body) Wb := hyy0
            have hp0 : Wb.cell? ⟨B.heap.size, 0, none⟩ = some (.int .i64 x) := cell_wr hwr (by simp [go_sem]) (by have := hAB.size; omega)
            have hp1 : Wb.cell? ⟨B.heap.size, 1, none⟩ = some (.slice az2 lv cz2) := cell_wr hwr (by simp [go_sem]) (by have := hAB.size; omega)
            have hyb := hIW.2.2.cl (W.heap.size, 0, .func (.yield l) #[] #[]) (by rw [HCm.out]; simp)
            dsimp only at hyb
            have hsAB := hAB.size
            have HIW := hide hIW
            have HsW := hide hsW
            clear hI hAB hk hx hv hwr hIW hrec hlv hyy0 hsW
            gi_wp2
            refine ⟨fun h => by simp [Fence.wide] at h, (roundIn_any hRr).mono ?_⟩
            rintro e V3 (⟨rfl, D', hJ3, hk3, hD3⟩ | ⟨rfl, hJx3, hk3⟩)
            · have hs3 := hk3.size
              have hwb := HsW.out
              have HPn : Hid (PartI J S T C [W2.heap.size, W1.heap.size, wc.heap.size] [W3.heap.size, W3.heap.size + 1] (.slice ay r.sn.length cy) (.slice az r.lg.length cz) r.sn r.lg ((flP r).length + (meP r).length + (snP r).length) D' (k + 1) V3) := ⟨hJ3, fun b hb => by
                  rcases hD3 b hb with h | h
                  · exact ⟨Nat.lt_of_lt_of_le (HIW.out.2.1 b h).1 hs3, (HIW.out.2.1 b h).2⟩
                  · refine ⟨HJb.out _ _ _ hJ3 b hb, ⟨fun h9 => by have := hS b h9; omega, fun h9 => by have := hT b h9; omega, fun p hp e => ?_, fun h9 => by have := hE3 b h9; omega⟩, by simp only [List.mem_cons, List.not_mem_nil, or_false, not_or]; omega⟩
                    have h9 := World.block_lt_of_cell? _ _ (HIW.out.2.2.cl p hp)
                    dsimp only at h9
                    omega, HIW.out.2.2.ku hk3 (fun b hb => (HIW.out.2.1 b hb).2.1)⟩
              have HK3 := hide hk3
              have HD3 := hide hD3
              clear hJ3 hk3 hD3
              gi_wp2
              exact ⟨D', HPn.out, HK3.out, HD3.out⟩
            · have HJ3 := hide hJx3
              have HK3 := hide hk3
              have HE3 : Hid (∀ b, b ∈ ([W2.heap.size, W1.heap.size, wc.heap.size] : List Nat) → V3.heap[b]? = some (.deferred (some []))) := (HIW.out.2.2.ku hk3 (fun b hb => (HIW.out.2.1 b hb).2.1)).dl
              clear hJx3 hk3
              gi_wp2
              exact ⟨HK3.out, rfl, HJ3.out, HE3.out⟩
          case stop3 =>
            rintro c Wd ⟨rfl, hJx3, hdl⟩ hKd
            have HJ3 := hide hJx3
            have HE3 := hide hdl
            clear hJx3 hdl
            gi_wp2
            exact leave_marks (n0 := W.heap.size) (Jc := Jx) (fun A l' q q' h1 h2 h3 h4 h5 => HJxo.out A l' q q' h1 h2 h3 h4 h5) (fun A h => ⟨_, results_none rfl _ _ _, ⟨_, rfl⟩, .inr h⟩) [W3.heap.size, W2.heap.size, W1.heap.size, wc.heap.size] Wd HJ3.out (by simp; try omega) (fun b hb => by
                rcases List.mem_cons.1 hb with h | h
                · subst h; exact ⟨by omega, hKd⟩
                · exact ⟨by simp only [List.mem_cons, List.not_mem_nil, or_false] at h; omega, HE3.out b h⟩)
          case done3 =>
            rintro D4 W4 ⟨hJd, hDd, hKd⟩ hKm
            have hsz4 : W3.heap.size < W4.heap.size := (Array.getElem?_eq_some_iff.1 hKm).1
            have hDd_E := fun b hb => (hDd b hb).2.1.2.2.2
            have HP4 : Hid (PartI J S T C [W3.heap.size, W2.heap.size, W1.heap.size, wc.heap.size] [] (.slice ay r.sn.length cy) (.slice az r.lg.length cz) r.sn r.lg ((flP r).length + (meP r).length + (snP r).length + (enP r).length) D4 0 W4) := ⟨hJd, fun b hb => by have h1 := hDd b hb; simp only [List.mem_cons, List.not_mem_nil, or_false, not_or] at h1; exact ⟨h1.1, ⟨h1.2.1.1, h1.2.1.2.1, h1.2.1.2.2.1, by intro h9; rcases List.mem_cons.1 h9 with h9 | h9; exact h1.2.2.1 h9; exact hDd_E b hb h9⟩, by simp⟩, ⟨hKd.rd, hKd.rj, hKd.cl, fun b hb => by rcases List.mem_cons.1 hb with h | h; (rw [h]; exact hKm); exact hKd.dl b h⟩⟩
            clear hJd hDd hKd hKm SQ3 HDi3 HKi3 HJi3 cb3
            gi_wp2
            obtain ⟨hJd, hDd, hKd⟩ := HP4.out
            have HJ3 := hide hJd
            have HE3 := hide hKd.dl
            clear hJd hDd hKd
            change Code.wpIn _ _ _ _ _ _ _
            gi_wp2
            exact leave_marks (n0 := W.heap.size) (Jc := fun A => J D4 (flP r ++ meP r ++ snP r ++ enP r).length A) (fun A l' q q' h1 h2 h3 h4 h5 => HJo.out _ _ A l' q q' h1 h2 h3 h4 h5) (fun A h => ⟨_, results_none rfl _ _ _, ⟨_, rfl⟩, .inl ⟨D4, by simp only [List.length_append, Nat.add_assoc] at h; exact h⟩⟩) [W3.heap.size, W2.heap.size, W1.heap.size, wc.heap.size] W4 (by rw [List.length_append, List.length_append, List.length_append]; exact HJ3.out) (by simp; try omega) (fun b hb => by
                refine ⟨?_, HE3.out b hb⟩
                simp only [List.mem_cons, List.not_mem_nil, or_false] at hb
                omega)
end Go.Proofs.YtlmaopljihbdkaaGreat
