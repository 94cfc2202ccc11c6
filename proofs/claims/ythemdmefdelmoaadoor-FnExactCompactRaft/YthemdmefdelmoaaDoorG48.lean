/- Dor CompactRaftProof in one text: what each says stands at its head below. -/
import Derived.Test.YthemdmefdelmoaaDoorRows
import Derived.Test.YthemdmefdelmoaaDoorG28
import Derived.Test.YthemdmefdelmoaaDoorG47
import Derived.ChangeVars
import Derived.LaidLaws
import Derived.LaidHandle
import Derived.Stop.LaidErr
import Derived.Stop.LaidTwo
import Derived.Stop.JoinedAt
import Derived.Test.YthemdmefdelmoaaDoorG21
import Derived.Test.YthemdmefdelmoaaDoorG46
/- What a row that lists the two package variables gives a walk, and a world that meets it. -/
namespace Go.Proofs.YthemdmefdelmoaaDoor
open Go.ChangeShapes Go.WideShapes Go.ChangeAt Go.RowKit
open Go.Extern.Stop Go.Stop Go.Extern

theorem Tryd.gN : Tryd.prog.globalNamed "loop.example/g00311/impl.errNotYet" = some 0 := by kernel_rfl
theorem Tryd.gNType : (Tryd.prog.globals[0]?).map (·.type) = some 65 := by kernel_rfl
theorem Tryd.gE : Tryd.prog.globalNamed "errors.errorType" = some 1 := by kernel_rfl
theorem Tryd.rt : (Tryd.prog.cutTypes.find? (·.1 == "internal/reflectlite.rtype")).map (·.2) = some 119 := by kernel_rfl
theorem Tryd.oneRow : ((List.range 169).filter fun t => Tryd.prog.rowNamed t [101, 114, 114, 111, 114]) = [65] := by kernel_rfl
theorem Tryd.tsize : Tryd.prog.types.size = 169 := by kernel_rfl
theorem Tryd.cellsE : Tryd.prog.cellsOf 157 = 1 := by kernel_rfl
theorem Tryd.cellsStr : Tryd.prog.cellsOf 9 = 1 := by kernel_rfl
theorem starE : "*" ++ "errors.errorString" = "*errors.errorString" := by decide
theorem Tryd.rowE (u : TypeId) (h : Tryd.prog.typeName? 3 u = some "*errors.errorString") : u = 134 :=
  typeName_ptr_named (nm := "errors.errorString") (by rw [starE]; kernel_rfl) (by kernel_rfl) (by decide) u (by rw [starE]; exact h)

def laidL : List (String × DataW Unit) := [("errors.errorType", Rows.laid_errors_errorType), ("loop.example/g00311/impl.errNotYet", Rows.laid_loop_example_g00311_impl_errNotYet)]
/-- What the condition gives a walk. -/
theorem gl_of_laid {W : World} (h : laidMetH Tryd.prog laidL W) : ∃ a, W.var? Tryd.prog "loop.example/g00311/impl.errNotYet" = some #[.iface 134 (.pointer (some a))] ∧ Gl W := by
  have h' : laidMet Tryd.prog [("loop.example/g00311/impl.errNotYet", Rows.laid_loop_example_g00311_impl_errNotYet)] W ∧ handlesMet Tryd.prog [("errors.errorType", Rows.laid_errors_errorType)] W := h
  obtain ⟨name, u, ty, e1, e2, e3, e4, e5⟩ := h'.2 _ (List.mem_singleton.2 rfl)
  have en : name = [101, 114, 114, 111, 114] := (Option.some.inj e1).symm
  subst en
  obtain rfl := Option.some.inj (Tryd.rt.symm.trans e2)
  have hm : ty ∈ (List.range 169).filter fun t => Tryd.prog.rowNamed t [101, 114, 114, 111, 114] := List.mem_filter.2 ⟨List.mem_range.2 (by rw [← Tryd.tsize]; exact e3), e4⟩
  rw [Tryd.oneRow] at hm
  obtain rfl := List.mem_singleton.1 hm
  have hh : typeHandle Tryd.prog 65 = .pointer (some ⟨2, 65, none⟩) := by kernel_rfl
  rw [hh] at e5
  obtain ⟨a, s, hv, _⟩ := laid_sentinel h'.1 Tryd.gN Tryd.gNType Tryd.underlying65 Tryd.rowE Tryd.underlying134 Tryd.underlying157 rfl rfl Tryd.underlying9 Tryd.cellsE Tryd.cellsStr
  exact ⟨a, hv, ⟨a, by simpa using World.var?_cell Tryd.gN hv 0⟩, by simpa using World.var?_cell Tryd.gE e5 0⟩
abbrev yetS : ByteArray := { data := #[110, 111, 116, 104, 105, 110, 103, 32, 105, 115, 32, 116, 104, 101, 114, 101, 32, 121, 101, 116] }
noncomputable def lowW : Nat := (World.holding Tryd.prog default ⟨#[], #[], []⟩).heap.size
noncomputable def laidWorld (os : Os) : World :=
  let w0 := World.holding Tryd.prog os ⟨#[.cells #[.string yetS] 157], #[], []⟩
  { w0 with heap := (w0.heap.modify 0 fun
      | .cells _ t frozen => .cells #[.iface 134 (.pointer (some ⟨lowW, 0, none⟩))] t frozen
      | o => o).modify 1 fun
      | .cells _ t frozen => .cells #[.iface 119 (.agg #[.pointer (some ⟨2, 65, none⟩)])] t frozen
      | o => o }
theorem laidWorld_met (os : Os) (args : Array Value) : laidMetH Tryd.prog laidL ((laidWorld os).forCall (fun _ _ => 0) ⟨#[], args, []⟩).memory :=
  laidMetH_of_parts (laidMet_of_run (ps := [.cell 0 0, .cell lowW 0]) 8 (by kernel_rfl) (by kernel_rfl) (by kernel_rfl)) (by kernel_rfl)
theorem vars_read {H : Type} (enc : TypeId × Value → H) {W : World} {x0 : Value} (h0 : W.var? Tryd.prog "loop.example/g00311/impl.errNotYet" = some #[x0]) (i0 : IsIface x0) (sp : Nat → Bool) :
    DataW.TrodVars enc Tryd.prog W sp ["loop.example/g00311/impl.errNotYet"] [tok enc x0] [.cell 0 0] :=
  ⟨0, 65, #[x0], 1, [], [], Tryd.gN, Tryd.gNType, h0, trod_held Tryd.underlying65 i0 0, rfl, rfl⟩
theorem var_below {W W' : World} {n : String} {cs : Array Value} (h : W.var? Tryd.prog n = some cs) (hb : Below W.heap.size W W') : W'.var? Tryd.prog n = some cs := by
  unfold World.var? at h ⊢
  cases hg : Tryd.prog.globalNamed n with
  | none => simp [hg] at h
  | some g =>
    simp only [hg, Option.bind_some] at h ⊢
    have hlt : g < W.heap.size := by
      rcases Nat.lt_or_ge g W.heap.size with h' | h'
      · exact h'
      · simp [Array.getElem?_eq_none h'] at h
    rw [hb.block g hlt]
    exact h
end Go.Proofs.YthemdmefdelmoaaDoor
/- For every input that can be handed in (a store, a number, a list of numbers; shared memory allowed): 'FnExactCompactRaft' returns true, and its arguments read as they did; the two package variables as the text lays them. Made by program (rowgen.py). -/
namespace Go.Proofs.YthemdmefdelmoaaDoor
open Go.ChangeShapes Go.WideShapes Go.ChangeAt Go.RowKit
open Go.Extern.Stop Go.Stop Go.Extern

set_option maxHeartbeats 2000000 in
theorem lawCompactRaft_all {S0 T0 S2 : Nat → Prop} {w : World} (n0_0 n0_1 n0_2 n0_3 : Int) {y0 z0 : Value} {xs0 : List Int} {ps0 : List Oj} (a1 : Int) {y2 : Value} {xs2 : List Int} (hy0 : RdI S0 w y0 xs0) (hz0 : RdJ T0 w z0 ps0) (hy2 : RdI S2 w y2 xs2) (hg : Gl w) :
    Calls Tryd.prog 3 #[.agg #[.int .i64 n0_0, .int .i64 n0_1, .int .i64 n0_2, .int .i64 n0_3, y0, z0], .int .i64 a1, y2] w fun e w' => e = .returned (.bool true) ∧ Below w.heap.size w w' := by
  by_cases hl2 : xs2.length ≤ 1048576
  · skip
    by_cases hs0 : ((xs0.length : Int) + szU ps0) ≤ 1048576
    · skip
      exact lawCompactRaft_small n0_0 n0_1 n0_2 n0_3 a1 hy0 hz0 hy2 (cpC ⟨n0_0, n0_1, n0_2, n0_3, xs0, ps0⟩ a1 xs2) (cpR ⟨n0_0, n0_1, n0_2, n0_3, xs0, ps0⟩ a1 xs2).tm (cpR ⟨n0_0, n0_1, n0_2, n0_3, xs0, ps0⟩ a1 xs2).vt (cpR ⟨n0_0, n0_1, n0_2, n0_3, xs0, ps0⟩ a1 xs2).si (cpR ⟨n0_0, n0_1, n0_2, n0_3, xs0, ps0⟩ a1 xs2).st (cpR ⟨n0_0, n0_1, n0_2, n0_3, xs0, ps0⟩ a1 xs2).sn (cpR ⟨n0_0, n0_1, n0_2, n0_3, xs0, ps0⟩ a1 xs2).lg (cpR_tot ⟨n0_0, n0_1, n0_2, n0_3, xs0, ps0⟩ a1 xs2) (by have := szU_nonneg ps0; omega) hl2 (fun _ _ _ w y z v hy hz hc hv => specCompactRaft ⟨n0_0, n0_1, n0_2, n0_3, xs0, ps0⟩ a1 hy hz hc hv) (fun _ _ _ w9 y z v hb hy hz hc hv => implCompactRaft ⟨n0_0, n0_1, n0_2, n0_3, xs0, ps0⟩ a1 (hg.later hb) hy hz hc hv)
    · skip
      obtain ⟨ay0, cy0, rfl⟩ := hy0.shape
      obtain ⟨az0, cz0, rfl, _⟩ := hz0.shape
      have HRz0 := hide hz0
      clear hz0
      obtain ⟨ay2, cy2, rfl⟩ := hy2.shape
      have hnb2 : ¬ ((1048576 : Int) < (xs2.length : Int)) := by omega
      have HZ0 := hide (szv_no (left := (1048576 : Int)) (s := ((xs0.length : Int) + szU ps0)) (by omega))
      have hd0 : 0 ≤ (1048576 : Int) ∧ (1048576 : Int) ≤ 1048576 := by have := szU_nonneg ps0; omega
      have HR0 := hide hy0
      have BB := hide (below_on (Below.refl w.heap.size w) (below_alloc _ (.cells #[.int .i64 n0_0, .int .i64 n0_1, .int .i64 n0_2, .int .i64 n0_3, .slice ay0 xs0.length cy0, .slice az0 ps0.length cz0] 25)))
      have F_b0 : Hid (Var6 (w.alloc (.cells #[.int .i64 n0_0, .int .i64 n0_1, .int .i64 n0_2, .int .i64 n0_3, .slice ay0 xs0.length cy0, .slice az0 ps0.length cz0] 25)) (w.heap.size) (.int .i64 n0_0) (.int .i64 n0_1) (.int .i64 n0_2) (.int .i64 n0_3) (.slice ay0 xs0.length cy0) (.slice az0 ps0.length cz0)) := by have h := Var6_new w (.int .i64 n0_0) (.int .i64 n0_1) (.int .i64 n0_2) (.int .i64 n0_3) (.slice ay0 xs0.length cy0) (.slice az0 ps0.length cz0) 25; (try simp at h); unfold Hid; exact h
      clear hy0 hy2
      clear hs0
      go_enter Tryd.func3, Tryd.ntmps3
      go_wp2_with fail
      refine (szRaft n0_0 n0_1 n0_2 n0_3 (HR0.out.later BB.out) (HRz0.out.later BB.out) hd0.1 hd0.2).mono ?_
      rintro e wz0 ⟨he, hb⟩
      rw [HZ0.out] at he
      subst he
      have G_b0 := hide (F_b0.out.later hb)
      clear F_b0
      have F_b0 := G_b0
      clear G_b0
      have BC := hide (below_on BB.out hb)
      clear BB
      have BB := BC
      clear BC hb
      go_wp2
      go_ret
      exact ⟨rfl, BB.out⟩
  · skip
    obtain ⟨ay0, cy0, rfl⟩ := hy0.shape
    obtain ⟨az0, cz0, rfl, _⟩ := hz0.shape
    have HRz0 := hide hz0
    clear hz0
    obtain ⟨ay2, cy2, rfl⟩ := hy2.shape
    have hbig : 1048576 < xs2.length := by omega
    have hym2 : xs2.length ≤ 9223372036854775807 := by obtain ⟨_, _, _, h, _⟩ := hy2; exact h
    have HR0 := hide hy0
    have BB := hide (below_on (Below.refl w.heap.size w) (below_alloc _ (.cells #[.int .i64 n0_0, .int .i64 n0_1, .int .i64 n0_2, .int .i64 n0_3, .slice ay0 xs0.length cy0, .slice az0 ps0.length cz0] 25)))
    clear hy0 hy2
    go_enter Tryd.func3, Tryd.ntmps3
    go_wp2
    go_ret
    exact ⟨rfl, BB.out⟩

set_option maxRecDepth 100000 in
theorem fnExactCompactRaft_lifted (os : Os) (started : os.Started) (H : Type) (enc : TypeId × Value → H) :
    ReturnsInHanded {} Tryd.checked os 3 .any (fun w args => (Rows.fnExactCompactRaftSpec.pre enc Tryd.prog Tryd.f3 [] false w args ∧ laidMetH Tryd.prog laidL w) ∧ sizedMet enc Tryd.prog Tryd.f3 (OpenSpec.ofChange Rows.fnExactCompactRaftSpec) false w args) (Rows.fnExactCompactRaftSpec.post enc Tryd.prog Tryd.f3 false true false false) := by
  refine returnsInHanded_of_change_and (C := Tryd.checked) (X := fun w _ => laidMetH Tryd.prog laidL w) (fun _ _ _ hh h => h.of_heap hh) Tryd.own started (by kernel_rfl) Tryd.func3
    (ChangeSpec.witness_at (enc := enc) (C := Tryd.checked) (os := os) (X := fun w _ => laidMetH Tryd.prog laidL w) false (laidWorld os) #[.agg #[.int .i64 0, .int .i64 0, .int .i64 0, .int .i64 0, .slice none 0 0, .slice none 0 0], .int .i64 0, .slice none 0 0] 8 rfl (by kernel_rfl) (by kernel_rfl) (by kernel_rfl) (by kernel_rfl) (by kernel_rfl) (laidWorld_met os _)) ?_
  intro W base args ds gs before hval0 hW _ _ hL _
  have hval : ∀ (j : Nat) t v, Tryd.f3.params[j]? = some t → args[j]? = some v → Value.okWide Tryd.prog W .any base t v := hval0
  have hW' := hW
  obtain ⟨p, q, hA0, hV0, rfl, hfz, hnd⟩ := hW
  have hA : DataW.TrodAll enc Tryd.prog W 0 (fun _ => true) true Tryd.f3.params.toList args.toList ds p := hA0
  have hV : DataW.TrodVars enc Tryd.prog W (fun _ => true) ["loop.example/g00311/impl.errNotYet"] gs q := hV0
  rw [Tryd.params3] at hA hval
  obtain ⟨v0, v1, v2, d0, d1, d2, p0, p1, p2, rfl, rfl, rfl, h0, h1, h2⟩ := trodAll_three hA
  obtain ⟨a, hv0, hg⟩ := gl_of_laid hL
  obtain ⟨rfl, rfl⟩ := hV.unique (vars_read enc hv0 trivial _)
  obtain ⟨⟨n0_0, n0_1, n0_2, n0_3, xs0, ps0⟩, y0, z0, rfl, hy0, hz0⟩ := rdRaft_of (hval 0 25 v0 rfl rfl) h0
  obtain ⟨a1, rfl, rfl, rfl, wf1⟩ := open_int Tryd.underlying2 (hval 1 2 v1 rfl rfl) h1
  obtain ⟨xs2, hy2⟩ := rdIarg_of (hval 2 22 v2 rfl rfl) h2
  clear hA0 hV0 hval0
  refine (lawCompactRaft_all n0_0 n0_1 n0_2 n0_3 a1 hy0 hz0 hy2 hg).mono fun e W' ⟨he, hb⟩ => ?_
  subst he
  exact ⟨_, rfl, _, _, _, [], p0 ++ ([] ++ (p2)), [.cell 0 0], hW', trodAll_mk1 (shut_bool Tryd.underlying4 _), trodAll_mk3 (Below.trod Tryd.laidOut (by kernel_rfl) (of_decide_eq_true (by kernel_rfl)) h0 hb (fun x hx => by simpa using hW'.lt x (by simp [hx]))) (shut_int Tryd.underlying2 wf1) (Below.trod Tryd.laidOut (by kernel_rfl) (of_decide_eq_true (by kernel_rfl)) h2 hb (fun x hx => by simpa using hW'.lt x (by simp [hx]))), vars_read enc (var_below hv0 hb) trivial _, hb.frame _, fun h => by cases h⟩

theorem fnExactCompactRaft_row : Rows.FnExactCompactRaftSaid :=
  OpenClaim.holds_of_wide 3 Tryd.f3 rfl rfl rfl rfl rfl rfl rfl ⟨rfl, rfl, rfl, rfl, rfl⟩ rfl rfl rfl rfl rfl (by kernel_rfl) Tryd.func3 (by kernel_rfl)
    (of_decide_eq_true (by kernel_rfl)) (by unfold Func.isWrapper; first | (rw [if_pos (by decide +kernel)]; kernel_rfl) | (rw [if_neg (by decide +kernel)]; exact ⟨rfl, rfl⟩))
    (fun os started H enc _ => fnExactCompactRaft_lifted os started H enc)
#print axioms fnExactCompactRaft_row
end Go.Proofs.YthemdmefdelmoaaDoor
