/- LawOps in one text: what each says stands at its head below. -/
import Derived.Test.YtlliggfggadidaaGreatDoorG29
import Derived.Test.YtlliggfggadidaaGreatDoorG30
import Derived.Test.YtlliggfggadidaaGreatDoorG34
import Derived.Test.YtlliggfggadidaaGreatDoorG35
import Derived.Test.YtlliggfggadidaaGreatDoorG38
import Derived.Test.YtlliggfggadidaaGreatDoorG31
import Derived.Test.YtlliggfggadidaaGreatDoorG36
import Derived.Test.YtlliggfggadidaaGreatDoorG06
namespace Go.Proofs.YtlliggfggadidaaGreatDoor
open Go.RowKit
theorem Tryz.fldOr0 (x0 x1 x2 x3 x4 x5 x6 x7 x8:Value) (w:World):(Instr.field 33 (.agg #[x0,x1,x2,x3,x4,x5,x6,x7,x8]) 0).run Tryz.prog w=.ok x0 w:=by
 simp [Instr.field,run_underlying Tryz.underlying33,asAgg,part,isAgg,run_underlying Tryz.underlying2]
theorem Tryz.fldOr1 (x0 x1 x2 x3 x4 x5 x6 x7 x8:Value) (w:World):(Instr.field 33 (.agg #[x0,x1,x2,x3,x4,x5,x6,x7,x8]) 1).run Tryz.prog w=.ok x1 w:=by
 simp [Instr.field,run_underlying Tryz.underlying33,asAgg,part,isAgg,run_underlying Tryz.underlying2]
theorem Tryz.fldOr2 (x0 x1 x2 x3 x4 x5 x6 x7 x8:Value) (w:World):(Instr.field 33 (.agg #[x0,x1,x2,x3,x4,x5,x6,x7,x8]) 2).run Tryz.prog w=.ok x2 w:=by
 simp [Instr.field,run_underlying Tryz.underlying33,asAgg,part,isAgg,run_underlying Tryz.underlying2]
theorem sameR_sameo (r:Rf):sameR r r=true:=by simp [sameR]
structure OpLw (r o X:Rf) (Y:Int):Prop where
 of:opF o=0
 rf:rfF X=0
 kept:keptB r X=true
 same:(Y≠0∨o.tm=5)→X=r
 meta_:2∈lkA o
 up: ∀j,1≤j→j<(lkA o).length→(lkA o).getD (j - 1) 0<(lkA o).getD j 0
theorem OpLw.of_ok {r o:Rf} (h:doC r o=0):OpLw r o (doR r o) (doY r o):=by
 have k:=op_law h
 exact ⟨k.of,k.rf,k.kept,k.same,k.meta_,k.up⟩
set_option linter.unusedSimpArgs false in
set_option maxHeartbeats 40000000 in
set_option maxRecDepth 4000 in
theorem lawOps {s0:Nat} {w:World} {v:Value} {bs:List Nat} (hv:RdB s0 w v bs) (hsm:bs.length≤1048576) (hg:Gl w):
  Calls Tryz.prog 3 #[v] w fun e w'=>e=.returned (.bool true)∧Below w.heap.size w w':=by
 have HV:Hid (RdB w.heap.size w v bs):=RdB.freshH hv
 have HG:=hide hg
 have fO0:=Tryz.fldOr0
 have fO1:=Tryz.fldOr1
 have fO2:=Tryz.fldOr2
 obtain ⟨ao,c,rfl,hle,h3⟩:=hv
 clear h3 hg
 go_enter Tryz.func3,Tryz.ntmps3
 go_wp2_with fail
 refine (lwBig ao bs.length c w (by omega)).mono ?_
 rintro e wx ⟨he,hwx⟩
 rw [decide_eq_false (by omega: ¬ (1048576<bs.length))] at he
 rw [he,hwx]
 clear he hwx wx
 go_wp2_with fail
 refine (drawDoOp HV.out).mono ?_
 rintro e w1 ⟨R,Q,y,z,y2,z2,rfl,hb1,hiv,hio⟩
 obtain ⟨ay,cy,az,cz,ey,ez⟩:=hiv.shape
 subst ey
 subst ez
 obtain ⟨au,cu,ab,cb,ey,ez⟩:=hio.shape
 subst ey
 subst ez
 have bA:=below_on (below_alloc w1 (.cells #[.int .i64 R.tm,.int .i64 R.vt,.int .i64 R.si,.int .i64 R.st,.slice ay R.sn.length cy,.slice az R.lg.length cz] 27)) (below_alloc (w1.alloc (.cells #[.int .i64 R.tm,.int .i64 R.vt,.int .i64 R.si,.int .i64 R.st,.slice ay R.sn.length cy,.slice az R.lg.length cz] 27)) (.cells #[.int .i64 Q.tm,.int .i64 Q.vt,.int .i64 Q.si,.int .i64 Q.st,.slice au Q.sn.length cu,.slice ab Q.lg.length cb] 29))
 have B1:=hide (below_on hb1 bA)
 have I1:=hide (hiv.later bA)
 have E1:=hide (hio.later bA)
 have V1:=hide ((Var6_new w1 (.int .i64 R.tm) (.int .i64 R.vt) (.int .i64 R.si) (.int .i64 R.st) (.slice ay R.sn.length cy) (.slice az R.lg.length cz) 27).later (below_alloc (w1.alloc (.cells #[.int .i64 R.tm,.int .i64 R.vt,.int .i64 R.si,.int .i64 R.st,.slice ay R.sn.length cy,.slice az R.lg.length cz] 27)) (.cells #[.int .i64 Q.tm,.int .i64 Q.vt,.int .i64 Q.si,.int .i64 Q.st,.slice au Q.sn.length cu,.slice ab Q.lg.length cb] 29)))
 have O1:=hide (Var6_new (w1.alloc (.cells #[.int .i64 R.tm,.int .i64 R.vt,.int .i64 R.si,.int .i64 R.st,.slice ay R.sn.length cy,.slice az R.lg.length cz] 27)) (.int .i64 Q.tm) (.int .i64 Q.vt) (.int .i64 Q.si) (.int .i64 Q.st) (.slice au Q.sn.length cu) (.slice ab Q.lg.length cb) 29)
 have G1:=hide ((HG.out.later hb1).later bA)
 clear HV HG hb1 hiv hio bA hsm hle
 go_upto_region 4 with fail
 have hsx:(w1.alloc (.cells #[.int .i64 R.tm,.int .i64 R.vt,.int .i64 R.si,.int .i64 R.st,.slice ay R.sn.length cy,.slice az R.lg.length cz] 27)).heap.size=w1.heap.size+1:=by simp
 rw [hsx] at O1
 clear hsx
 obtain ⟨W,hW⟩: ∃x,((w1.alloc (.cells #[.int .i64 R.tm,.int .i64 R.vt,.int .i64 R.si,.int .i64 R.st,.slice ay R.sn.length cy,.slice az R.lg.length cz] 27)).alloc (.cells #[.int .i64 Q.tm,.int .i64 Q.vt,.int .i64 Q.si,.int .i64 Q.st,.slice au Q.sn.length cu,.slice ab Q.lg.length cb] 29))=x:=⟨_,rfl⟩
 rw [hW] at B1 I1 E1 V1 O1 G1
 (try rw [hW])
 clear hW
 obtain ⟨RR,hRR⟩: ∃x,w1.heap.size=x:=⟨_,rfl⟩
 rw [hRR] at V1 O1
 (try rw [hRR])
 clear hRR
 obtain ⟨OO,hOO⟩: ∃x,RR+1=x:=⟨_,rfl⟩
 rw [hOO] at O1
 (try rw [hOO])
 clear hOO
 have KI:=hide (implDoOp R Q G1.out I1.out.rdI I1.out.rdJ I1.out.capE E1.out.rdI E1.out.rdJ E1.out.capE)
 have KS:=hide (fun (w':World) (hb:Below W.heap.size W w')=>specDoOp R Q (I1.out.later hb).rdI (I1.out.later hb).rdJ (I1.out.later hb).capE (E1.out.later hb).rdI (E1.out.later hb).rdJ (E1.out.later hb).capE)
 have HL:=hide (fun h:doC R Q=0=>OpLw.of_ok h)
 generalize doR R Q=X at KI KS HL
 generalize doY R Q=Y at KI KS HL
 generalize doV R Q=U at KI KS HL
 generalize doC R Q=C at KI KS HL
 obtain ⟨v0,v1,v2,v3,v4,v5⟩:=V1.out
 obtain ⟨o0,o1,o2,o3,o4,o5⟩:=O1.out
 go_wp2_with fail
 refine (KI.out).mono ?_
 rintro e w2 ⟨y2,z2,rfl,hb2,ho2⟩
 obtain ⟨a2,k2,g2,j2,rfl,rfl⟩:=ho2.shape
 have bA:=below_alloc w2 (.cells #[.int .i64 C,.int .i64 Y,.int .i64 U,.int .i64 X.tm,.int .i64 X.vt,.int .i64 X.si,.int .i64 X.st,.slice a2 X.sn.length k2,.slice g2 X.lg.length j2] 33)
 have B2:=hide (below_on hb2 bA)
 have I2:=hide (I1.out.later B2.out)
 have E2:=hide (E1.out.later B2.out)
 have J2:=hide (ho2.later bA)
 have V2:=hide (V1.out.later B2.out)
 have O2:=hide (O1.out.later B2.out)
 have U2:=hide (Var9_new w2 (.int .i64 C) (.int .i64 Y) (.int .i64 U) (.int .i64 X.tm) (.int .i64 X.vt) (.int .i64 X.si) (.int .i64 X.st) (.slice a2 X.sn.length k2) (.slice g2 X.lg.length j2) 33)
 clear KI hb2 ho2 bA
 clear v0 v1 v2 v3 v4 v5 o0 o1 o2 o3 o4 o5
 go_upto_region 5 with fail
 obtain ⟨W2,hW2⟩: ∃x,w2.alloc (.cells #[.int .i64 C,.int .i64 Y,.int .i64 U,.int .i64 X.tm,.int .i64 X.vt,.int .i64 X.si,.int .i64 X.st,.slice a2 X.sn.length k2,.slice g2 X.lg.length j2] 33)=x:=⟨_,rfl⟩
 rw [hW2] at B2 I2 E2 J2 V2 O2 U2
 (try rw [hW2])
 clear hW2
 obtain ⟨UU,hUU⟩: ∃x,w2.heap.size=x:=⟨_,rfl⟩
 rw [hUU] at U2
 (try rw [hUU])
 clear hUU
 obtain ⟨v0,v1,v2,v3,v4,v5⟩:=V2.out.later (Below.refl _ _);obtain ⟨o0,o1,o2,o3,o4,o5⟩:=O2.out.later (Below.refl _ _);obtain ⟨m0,m1,m2,m3,m4,m5,m6,m7,m8⟩:=U2.out.later (Below.refl _ _)
 by_cases hC:C=0
 ·subst hC
  have HD:=hide (HL.out rfl)
  clear HL I1 E1 V1 O1 G1
  have KL:=hide (implLocksFor Q E2.out.rdI E2.out.rdJ)
  rw [HD.out.of] at KL
  have hup:=hide HD.out.up
  have hmeta:=hide HD.out.meta_
  have hlen:=lkA_len Q
  generalize lkA Q=A at KL hup hmeta hlen
  go_wp2_with fail
  refine (KL.out).mono ?_
  rintro e w3 ⟨yl,rfl,hb3,hl3⟩
  obtain ⟨al,cl,el⟩:=hl3.rd.shape
  subst el
  have bA:=below_alloc w3 (.cells #[.int .i64 0,.slice al A.length cl] 36)
  have B3:=hide (below_on hb3 bA)
  have L3:=hide (Var2_new w3 (.int .i64 0) (.slice al A.length cl) 36)
  have N3:=hide (hl3.rd.later bA)
  clear KL hb3 hl3 bA
  clear v0 v1 v2 v3 v4 v5 o0 o1 o2 o3 o4 o5 m0 m1 m2 m3 m4 m5 m6 m7 m8
  go_upto_region 8 with fail
  obtain ⟨W3,hW3⟩: ∃x,w3.alloc (.cells #[.int .i64 0,.slice al A.length cl] 36)=x:=⟨_,rfl⟩
  rw [hW3] at B3 L3 N3
  (try rw [hW3])
  clear hW3
  obtain ⟨LL,hLL⟩: ∃x,w3.heap.size=x:=⟨_,rfl⟩
  rw [hLL] at L3
  (try rw [hLL])
  clear hLL
  go_wp2
  go_loopw [7] (fun i wr=> ∃k:Nat,1≤k∧i=.int .i64 (k:Int)∧Hid (Below W3.heap.size W3 wr)) (fun i _=>A.length - (RowKit.intOf i).toNat)
  case atStart=>exact ⟨1,Nat.le_refl _,rfl,Below.refl _ _⟩
  case round=>
   obtain ⟨k,hk,rfl,HB⟩:=hrel
   obtain ⟨l0,l1⟩:=L3.out.later HB.out
   by_cases hlt:k<A.length
   ·skip
    have hx:=hup.out k hk hlt
    obtain ⟨ao9,c9,e9,_,h9⟩:=N3.out.later HB.out
    injection e9 with e9a _ _
    subst e9a
    obtain ⟨bl,ol,f1,_,f3⟩:=h9 (by rintro e;rw [e] at hlt;exact absurd hlt (Nat.not_lt_zero _))
    subst f1
    have c0:=f3 k hlt
    have c1:=f3 (k - 1) (by omega)
    obtain ⟨j,hj⟩: ∃j,k - 1=j:=⟨_,rfl⟩
    rw [hj] at c1 hx
    have hkj:k=j+1:=by omega
    have hwk:IntKind.i64.wrap ((k:Int) - 1)=(j:Int):=by rw [hkj];simp [IntKind.wrap,IntKind.bits,IntKind.signed];omega
    generalize A.getD k 0=x0 at c0 hx
    generalize A.getD j 0=x1 at c1 hx
    have hxb:decide (x0≤x1)=false:=decide_eq_false (by omega)
    have hlti:(k:Int)<(A.length:Int):=by omega
    have hji:(j:Int)<(A.length:Int):=by omega
    have hwk1:IntKind.i64.wrap ((k:Int)+1)=(k:Int)+1:=by simp [IntKind.wrap,IntKind.bits,IntKind.signed];omega
    clear f3 h9 hj
    have HK:=hide hkj
    clear hkj
    go_upto_region 11 with fail
    go_quiet (fail)
    have HBq:=hide (below_on HB.out (below_drewN _ nq))
    go_wp2
    go_roundw
    case rel=>exact ⟨k+1,by omega,by go_num,HBq.out⟩
    case measure=>simp [RowKit.intOf];omega
   ·have hlti: ¬ ((k:Int)<(A.length:Int)):=by omega
    have hltn:A.length≤k:=by omega
    go_upto_region 13 with fail
    clear hlti hltn hlt l0 l1
    have HW:Hid (Below W2.heap.size W2 W3):=B3
    have KR:=hide (fun (w':World) (hb:Below W3.heap.size W3 w')=>implRaftFault X (J2.out.later (below_on B3.out hb)).rdI (J2.out.later (below_on B3.out hb)).rdJ)
    have KO:=hide (fun (w':World) (hb:Below W3.heap.size W3 w')=>implOpFault Q (E2.out.later (below_on B3.out hb)).rdI (E2.out.later (below_on B3.out hb)).rdJ)
    have KK:=hide (fun (w':World) (hb:Below W3.heap.size W3 w')=>implKeptOf R X (I2.out.later (below_on B3.out hb)).rdI (I2.out.later (below_on B3.out hb)).rdJ (J2.out.later (below_on B3.out hb)).rdI (J2.out.later (below_on B3.out hb)).rdJ)
    have KE:=hide (fun (w':World) (hb:Below W3.heap.size W3 w')=>implSameRafts X R (J2.out.later (below_on B3.out hb)).rdI (J2.out.later (below_on B3.out hb)).rdJ (I2.out.later (below_on B3.out hb)).rdI (I2.out.later (below_on B3.out hb)).rdJ)
    have KH:=hide (fun (w':World) (hb:Below W3.heap.size W3 w')=>lwHas 2 (N3.out.later hb) hmeta.out)
    rw [HD.out.rf] at KR
    rw [HD.out.of] at KO
    rw [HD.out.kept] at KK
    have HSame:=hide HD.out.same
    clear hmeta hup
    by_cases hY:Y=0
    ·subst hY
     by_cases hQ5:Q.tm=5
     ·have hXR:=HSame.out (Or.inr hQ5)
      have hsr:sameR X R=true:=by rw [hXR];exact sameR_sameo R
      rw [hsr] at KE
      clear hXR hsr
      have hq5:(Q.tm !=5)=false:=by simp [hQ5]
      clear hQ5
      refine wp_region_held_drew (S:=fun w'=>Below W3.heap.size W3 w') (by kernel_rfl) (below_on HB.out (below_drewN wr 1)) (fun hHeld=>?_)
      refine forgetH (fun wx=>Below W3.heap.size W3 wx) hHeld ?_
      clear hHeld
      rintro Y0 hHeld
      have HY0:=hide hHeld
      clear HB
      refine wpAnyH_take (i:=0) (v:=?vb1x0) rfl (by kernel_rfl) (by kernel_rfl) (by kernel_rfl) (fun _ _ _ h=>h) (Or.inl ⟨by rfl,?hb1x0⟩) hHeld ?rb1x0
      case hb1x0=>intro w9 hSw;(try dsimp only at hSw);first | (go_simp;done) | (go_simp;with_reducible rfl)
      try simp only [Act.put,List.setIfInBounds_toArray,List.set_cons_zero,List.set_cons_succ,List.getElem_toArray,List.getElem_cons_zero]
      refine wpAnyH_take (i:=1) (v:=?vb2x1) rfl (by kernel_rfl) (by kernel_rfl) (by kernel_rfl) (fun _ _ _ h=>h) (Or.inl ⟨by rfl,?hb2x1⟩) hHeld ?rb2x1
      case hb2x1=>intro w9 hSw;(try dsimp only at hSw);obtain ⟨v0,v1,v2,v3,v4,v5⟩:=V2.out.later (below_on B3.out hSw);obtain ⟨o0,o1,o2,o3,o4,o5⟩:=O2.out.later (below_on B3.out hSw);obtain ⟨m0,m1,m2,m3,m4,m5,m6,m7,m8⟩:=U2.out.later (below_on B3.out hSw);obtain ⟨l0,l1⟩:=L3.out.later hSw;first | (go_simp;done) | (go_simp;with_reducible rfl)
      try simp only [Act.put,List.setIfInBounds_toArray,List.set_cons_zero,List.set_cons_succ,List.getElem_toArray,List.getElem_cons_zero,List.getElem_cons_succ]
      refine wpAnyH_ready (rs:=[2]) (by kernel_rfl) (by simp) (AllReadyH.cons rfl (fun K9 hK=>?_) AllReadyH.nil)
      go_simp
      go_at_call 10
      refine (KR.out _ HY0.out).mono ?_
      rintro e Y1 ⟨rfl,hb9⟩
      have HY1:=hide (below_on HY0.out hb9)
      clear hb9 hHeld
      refine hK.out _ _ HY1.out (fun hHeld=>?_)
      clear hK K9
      try simp only [Act.put,List.setIfInBounds_toArray,List.set_cons_zero,List.set_cons_succ,List.getElem_toArray,List.getElem_cons_zero,List.getElem_cons_succ]
      refine wpAnyH_take (i:=3) (v:=?vb3x3) rfl (by kernel_rfl) (by kernel_rfl) (by kernel_rfl) (fun _ _ _ h=>h) (Or.inl ⟨by rfl,?hb3x3⟩) hHeld ?rb3x3
      case hb3x3=>intro w9 hSw;(try dsimp only at hSw);first | (go_simp;done) | (go_simp;with_reducible rfl)
      try simp only [Act.put,List.setIfInBounds_toArray,List.set_cons_zero,List.set_cons_succ,List.getElem_toArray,List.getElem_cons_zero,List.getElem_cons_succ]
      refine wpAnyH_take (i:=4) (v:=?vb4x4) rfl (by kernel_rfl) (by kernel_rfl) (by kernel_rfl) (fun _ _ _ h=>h) (Or.inl ⟨by rfl,?hb4x4⟩) hHeld ?rb4x4
      case hb4x4=>intro w9 hSw;(try dsimp only at hSw);first | (go_simp;done) | (go_simp;with_reducible rfl)
      try simp only [Act.put,List.setIfInBounds_toArray,List.set_cons_zero,List.set_cons_succ,List.getElem_toArray,List.getElem_cons_zero,List.getElem_cons_succ]
      refine wpAnyH_take (i:=5) (v:=?vb5x5) rfl (by kernel_rfl) (by kernel_rfl) (by kernel_rfl) (fun _ _ _ h=>h) (Or.inl ⟨by rfl,?hb5x5⟩) hHeld ?rb5x5
      case hb5x5=>intro w9 hSw;(try dsimp only at hSw);obtain ⟨v0,v1,v2,v3,v4,v5⟩:=V2.out.later (below_on B3.out hSw);obtain ⟨o0,o1,o2,o3,o4,o5⟩:=O2.out.later (below_on B3.out hSw);obtain ⟨m0,m1,m2,m3,m4,m5,m6,m7,m8⟩:=U2.out.later (below_on B3.out hSw);obtain ⟨l0,l1⟩:=L3.out.later hSw;first | (go_simp;done) | (go_simp;with_reducible rfl)
      try simp only [Act.put,List.setIfInBounds_toArray,List.set_cons_zero,List.set_cons_succ,List.getElem_toArray,List.getElem_cons_zero,List.getElem_cons_succ]
      refine wpAnyH_ready (rs:=[6]) (by kernel_rfl) (by simp) (AllReadyH.cons rfl (fun K9 hK=>?_) AllReadyH.nil)
      go_simp
      go_at_call 11
      refine (KO.out _ HY1.out).mono ?_
      rintro e Y2 ⟨rfl,hb9⟩
      have HY2:=hide (below_on HY1.out hb9)
      clear hb9 hHeld
      refine hK.out _ _ HY2.out (fun hHeld=>?_)
      clear hK K9
      try simp only [Act.put,List.setIfInBounds_toArray,List.set_cons_zero,List.set_cons_succ,List.getElem_toArray,List.getElem_cons_zero,List.getElem_cons_succ]
      refine wpAnyH_take (i:=7) (v:=?vb6x7) rfl (by kernel_rfl) (by kernel_rfl) (by kernel_rfl) (fun _ _ _ h=>h) (Or.inl ⟨by rfl,?hb6x7⟩) hHeld ?rb6x7
      case hb6x7=>intro w9 hSw;(try dsimp only at hSw);first | (go_simp;done) | (go_simp;with_reducible rfl)
      try simp only [Act.put,List.setIfInBounds_toArray,List.set_cons_zero,List.set_cons_succ,List.getElem_toArray,List.getElem_cons_zero,List.getElem_cons_succ]
      refine wpAnyH_take (i:=8) (v:=?vb7x8) rfl (by kernel_rfl) (by kernel_rfl) (by kernel_rfl) (fun _ _ _ h=>h) (Or.inl ⟨by rfl,?hb7x8⟩) hHeld ?rb7x8
      case hb7x8=>intro w9 hSw;(try dsimp only at hSw);first | (go_simp;done) | (go_simp;with_reducible rfl)
      try simp only [Act.put,List.setIfInBounds_toArray,List.set_cons_zero,List.set_cons_succ,List.getElem_toArray,List.getElem_cons_zero,List.getElem_cons_succ]
      refine wpAnyH_take (i:=9) (v:=?vb8x9) rfl (by kernel_rfl) (by kernel_rfl) (by kernel_rfl) (fun _ _ _ h=>h) (Or.inl ⟨by rfl,?hb8x9⟩) hHeld ?rb8x9
      case hb8x9=>intro w9 hSw;(try dsimp only at hSw);first | (go_simp;done) | (go_simp;with_reducible rfl)
      try simp only [Act.put,List.setIfInBounds_toArray,List.set_cons_zero,List.set_cons_succ,List.getElem_toArray,List.getElem_cons_zero,List.getElem_cons_succ]
      refine wpAnyH_take (i:=10) (v:=?vb9x10) rfl (by kernel_rfl) (by kernel_rfl) (by kernel_rfl) (fun _ _ _ h=>h) (Or.inl ⟨by rfl,?hb9x10⟩) hHeld ?rb9x10
      case hb9x10=>intro w9 hSw;(try dsimp only at hSw);first | (go_simp;done) | (go_simp;with_reducible rfl)
      try simp only [Act.put,List.setIfInBounds_toArray,List.set_cons_zero,List.set_cons_succ,List.getElem_toArray,List.getElem_cons_zero,List.getElem_cons_succ]
      refine wpAnyH_take (i:=11) (v:=?vb10x11) rfl (by kernel_rfl) (by kernel_rfl) (by kernel_rfl) (fun _ _ _ h=>h) (Or.inl ⟨by rfl,?hb10x11⟩) hHeld ?rb10x11
      case hb10x11=>intro w9 hSw;(try dsimp only at hSw);obtain ⟨v0,v1,v2,v3,v4,v5⟩:=V2.out.later (below_on B3.out hSw);obtain ⟨o0,o1,o2,o3,o4,o5⟩:=O2.out.later (below_on B3.out hSw);obtain ⟨m0,m1,m2,m3,m4,m5,m6,m7,m8⟩:=U2.out.later (below_on B3.out hSw);obtain ⟨l0,l1⟩:=L3.out.later hSw;first | (go_simp;done) | (go_simp;with_reducible rfl)
      try simp only [Act.put,List.setIfInBounds_toArray,List.set_cons_zero,List.set_cons_succ,List.getElem_toArray,List.getElem_cons_zero,List.getElem_cons_succ]
      refine wpAnyH_take (i:=12) (v:=?vb11x12) rfl (by kernel_rfl) (by kernel_rfl) (by kernel_rfl) (fun _ _ _ h=>h) (Or.inl ⟨by rfl,?hb11x12⟩) hHeld ?rb11x12
      case hb11x12=>intro w9 hSw;(try dsimp only at hSw);obtain ⟨v0,v1,v2,v3,v4,v5⟩:=V2.out.later (below_on B3.out hSw);obtain ⟨o0,o1,o2,o3,o4,o5⟩:=O2.out.later (below_on B3.out hSw);obtain ⟨m0,m1,m2,m3,m4,m5,m6,m7,m8⟩:=U2.out.later (below_on B3.out hSw);obtain ⟨l0,l1⟩:=L3.out.later hSw;first | (go_simp;done) | (go_simp;with_reducible rfl)
      try simp only [Act.put,List.setIfInBounds_toArray,List.set_cons_zero,List.set_cons_succ,List.getElem_toArray,List.getElem_cons_zero,List.getElem_cons_succ]
      refine wpAnyH_take (i:=13) (v:=?vb12x13) rfl (by kernel_rfl) (by kernel_rfl) (by kernel_rfl) (fun _ _ _ h=>h) (Or.inl ⟨by rfl,?hb12x13⟩) hHeld ?rb12x13
      case hb12x13=>intro w9 hSw;(try dsimp only at hSw);obtain ⟨v0,v1,v2,v3,v4,v5⟩:=V2.out.later (below_on B3.out hSw);obtain ⟨o0,o1,o2,o3,o4,o5⟩:=O2.out.later (below_on B3.out hSw);obtain ⟨m0,m1,m2,m3,m4,m5,m6,m7,m8⟩:=U2.out.later (below_on B3.out hSw);obtain ⟨l0,l1⟩:=L3.out.later hSw;first | (go_simp;done) | (go_simp;with_reducible rfl)
      try simp only [Act.put,List.setIfInBounds_toArray,List.set_cons_zero,List.set_cons_succ,List.getElem_toArray,List.getElem_cons_zero,List.getElem_cons_succ]
      refine wpAnyH_ready (rs:=[14]) (by kernel_rfl) (by simp) (AllReadyH.cons rfl (fun K9 hK=>?_) AllReadyH.nil)
      go_simp
      go_at_call 8
      refine (KS.out _ (below_on B2.out (below_on B3.out HY2.out))).mono ?_
      rintro e Y3 ⟨y8,z8,rfl,hb9,_⟩
      have HY3:=hide (below_on HY2.out hb9)
      clear hb9 hHeld
      refine hK.out _ _ HY3.out (fun hHeld=>?_)
      clear hK K9
      try simp only [Act.put,List.setIfInBounds_toArray,List.set_cons_zero,List.set_cons_succ,List.getElem_toArray,List.getElem_cons_zero,List.getElem_cons_succ]
      refine wpAnyH_take (i:=15) (v:=?vb13x15) rfl (by kernel_rfl) (by kernel_rfl) (by kernel_rfl) (fun _ _ _ h=>h) (Or.inl ⟨by rfl,?hb13x15⟩) hHeld ?rb13x15
      case hb13x15=>intro w9 hSw;(try dsimp only at hSw);first | (go_simp;done) | (go_simp;with_reducible rfl) | (go_simp;rw [fO1];done) | (go_simp;rw [fO1];rfl)
      try simp only [Act.put,List.setIfInBounds_toArray,List.set_cons_zero,List.set_cons_succ,List.getElem_toArray,List.getElem_cons_zero,List.getElem_cons_succ]
      refine wpAnyH_take (i:=16) (v:=?vb14x16) rfl (by kernel_rfl) (by kernel_rfl) (by kernel_rfl) (fun _ _ _ h=>h) (Or.inl ⟨by rfl,?hb14x16⟩) hHeld ?rb14x16
      case hb14x16=>intro w9 hSw;(try dsimp only at hSw);first | (go_simp;done) | (go_simp;with_reducible rfl)
      try simp only [Act.put,List.setIfInBounds_toArray,List.set_cons_zero,List.set_cons_succ,List.getElem_toArray,List.getElem_cons_zero,List.getElem_cons_succ]
      refine wpAnyH_take (i:=17) (v:=?vb15x17) rfl (by kernel_rfl) (by kernel_rfl) (by kernel_rfl) (fun _ _ _ h=>h) (Or.inl ⟨by rfl,?hb15x17⟩) hHeld ?rb15x17
      case hb15x17=>intro w9 hSw;(try dsimp only at hSw);first | (go_simp;done) | (go_simp;with_reducible rfl)
      try simp only [Act.put,List.setIfInBounds_toArray,List.set_cons_zero,List.set_cons_succ,List.getElem_toArray,List.getElem_cons_zero,List.getElem_cons_succ]
      refine wpAnyH_take (i:=18) (v:=?vb16x18) rfl (by kernel_rfl) (by kernel_rfl) (by kernel_rfl) (fun _ _ _ h=>h) (Or.inl ⟨by rfl,?hb16x18⟩) hHeld ?rb16x18
      case hb16x18=>intro w9 hSw;(try dsimp only at hSw);first | (go_simp;done) | (go_simp;with_reducible rfl)
      try simp only [Act.put,List.setIfInBounds_toArray,List.set_cons_zero,List.set_cons_succ,List.getElem_toArray,List.getElem_cons_zero,List.getElem_cons_succ]
      refine wpAnyH_take (i:=19) (v:=?vb17x19) rfl (by kernel_rfl) (by kernel_rfl) (by kernel_rfl) (fun _ _ _ h=>h) (Or.inl ⟨by rfl,?hb17x19⟩) hHeld ?rb17x19
      case hb17x19=>intro w9 hSw;(try dsimp only at hSw);first | (go_simp;done) | (go_simp;with_reducible rfl)
      try simp only [Act.put,List.setIfInBounds_toArray,List.set_cons_zero,List.set_cons_succ,List.getElem_toArray,List.getElem_cons_zero,List.getElem_cons_succ]
      refine wpAnyH_take (i:=20) (v:=?vb18x20) rfl (by kernel_rfl) (by kernel_rfl) (by kernel_rfl) (fun _ _ _ h=>h) (Or.inl ⟨by rfl,?hb18x20⟩) hHeld ?rb18x20
      case hb18x20=>intro w9 hSw;(try dsimp only at hSw);obtain ⟨v0,v1,v2,v3,v4,v5⟩:=V2.out.later (below_on B3.out hSw);obtain ⟨o0,o1,o2,o3,o4,o5⟩:=O2.out.later (below_on B3.out hSw);obtain ⟨m0,m1,m2,m3,m4,m5,m6,m7,m8⟩:=U2.out.later (below_on B3.out hSw);obtain ⟨l0,l1⟩:=L3.out.later hSw;first | (go_simp;done) | (go_simp;with_reducible rfl)
      try simp only [Act.put,List.setIfInBounds_toArray,List.set_cons_zero,List.set_cons_succ,List.getElem_toArray,List.getElem_cons_zero,List.getElem_cons_succ]
      refine wpAnyH_take (i:=21) (v:=?vb19x21) rfl (by kernel_rfl) (by kernel_rfl) (by kernel_rfl) (fun _ _ _ h=>h) (Or.inl ⟨by rfl,?hb19x21⟩) hHeld ?rb19x21
      case hb19x21=>intro w9 hSw;(try dsimp only at hSw);obtain ⟨v0,v1,v2,v3,v4,v5⟩:=V2.out.later (below_on B3.out hSw);obtain ⟨o0,o1,o2,o3,o4,o5⟩:=O2.out.later (below_on B3.out hSw);obtain ⟨m0,m1,m2,m3,m4,m5,m6,m7,m8⟩:=U2.out.later (below_on B3.out hSw);obtain ⟨l0,l1⟩:=L3.out.later hSw;first | (go_simp;done) | (go_simp;with_reducible rfl)
      try simp only [Act.put,List.setIfInBounds_toArray,List.set_cons_zero,List.set_cons_succ,List.getElem_toArray,List.getElem_cons_zero,List.getElem_cons_succ]
      refine wpAnyH_take (i:=22) (v:=?vb20x22) rfl (by kernel_rfl) (by kernel_rfl) (by kernel_rfl) (fun _ _ _ h=>h) (Or.inl ⟨by rfl,?hb20x22⟩) hHeld ?rb20x22
      case hb20x22=>intro w9 hSw;(try dsimp only at hSw);obtain ⟨v0,v1,v2,v3,v4,v5⟩:=V2.out.later (below_on B3.out hSw);obtain ⟨o0,o1,o2,o3,o4,o5⟩:=O2.out.later (below_on B3.out hSw);obtain ⟨m0,m1,m2,m3,m4,m5,m6,m7,m8⟩:=U2.out.later (below_on B3.out hSw);obtain ⟨l0,l1⟩:=L3.out.later hSw;first | (go_simp;done) | (go_simp;with_reducible rfl)
      try simp only [Act.put,List.setIfInBounds_toArray,List.set_cons_zero,List.set_cons_succ,List.getElem_toArray,List.getElem_cons_zero,List.getElem_cons_succ]
      refine wpAnyH_ready (rs:=[23]) (by kernel_rfl) (by simp) (AllReadyH.cons rfl (fun K9 hK=>?_) AllReadyH.nil)
      go_simp
      go_at_call 8
      refine (KS.out _ (below_on B2.out (below_on B3.out HY3.out))).mono ?_
      rintro e Y4 ⟨y8,z8,rfl,hb9,_⟩
      have HY4:=hide (below_on HY3.out hb9)
      clear hb9 hHeld
      refine hK.out _ _ HY4.out (fun hHeld=>?_)
      clear hK K9
      try simp only [Act.put,List.setIfInBounds_toArray,List.set_cons_zero,List.set_cons_succ,List.getElem_toArray,List.getElem_cons_zero,List.getElem_cons_succ]
      refine wpAnyH_take (i:=24) (v:=?vb21x24) rfl (by kernel_rfl) (by kernel_rfl) (by kernel_rfl) (fun _ _ _ h=>h) (Or.inl ⟨by rfl,?hb21x24⟩) hHeld ?rb21x24
      case hb21x24=>intro w9 hSw;(try dsimp only at hSw);first | (go_simp;done) | (go_simp;with_reducible rfl) | (go_simp;rw [fO2];done) | (go_simp;rw [fO2];rfl)
      try simp only [Act.put,List.setIfInBounds_toArray,List.set_cons_zero,List.set_cons_succ,List.getElem_toArray,List.getElem_cons_zero,List.getElem_cons_succ]
      refine wpAnyH_take (i:=25) (v:=?vb22x25) rfl (by kernel_rfl) (by kernel_rfl) (by kernel_rfl) (fun _ _ _ h=>h) (Or.inl ⟨by rfl,?hb22x25⟩) hHeld ?rb22x25
      case hb22x25=>intro w9 hSw;(try dsimp only at hSw);first | (go_simp;done) | (go_simp;with_reducible rfl)
      try simp only [Act.put,List.setIfInBounds_toArray,List.set_cons_zero,List.set_cons_succ,List.getElem_toArray,List.getElem_cons_zero,List.getElem_cons_succ]
      refine wpAnyH_take (i:=26) (v:=?vb23x26) rfl (by kernel_rfl) (by kernel_rfl) (by kernel_rfl) (fun _ _ _ h=>h) (Or.inl ⟨by rfl,?hb23x26⟩) hHeld ?rb23x26
      case hb23x26=>intro w9 hSw;(try dsimp only at hSw);first | (go_simp;done) | (go_simp;with_reducible rfl)
      try simp only [Act.put,List.setIfInBounds_toArray,List.set_cons_zero,List.set_cons_succ,List.getElem_toArray,List.getElem_cons_zero,List.getElem_cons_succ]
      refine wpAnyH_take (i:=27) (v:=?vb24x27) rfl (by kernel_rfl) (by kernel_rfl) (by kernel_rfl) (fun _ _ _ h=>h) (Or.inl ⟨by rfl,?hb24x27⟩) hHeld ?rb24x27
      case hb24x27=>intro w9 hSw;(try dsimp only at hSw);first | (go_simp;done) | (go_simp;with_reducible rfl)
      try simp only [Act.put,List.setIfInBounds_toArray,List.set_cons_zero,List.set_cons_succ,List.getElem_toArray,List.getElem_cons_zero,List.getElem_cons_succ]
      refine wpAnyH_take (i:=28) (v:=?vb25x28) rfl (by kernel_rfl) (by kernel_rfl) (by kernel_rfl) (fun _ _ _ h=>h) (Or.inl ⟨by rfl,?hb25x28⟩) hHeld ?rb25x28
      case hb25x28=>intro w9 hSw;(try dsimp only at hSw);first | (go_simp;done) | (go_simp;with_reducible rfl)
      try simp only [Act.put,List.setIfInBounds_toArray,List.set_cons_zero,List.set_cons_succ,List.getElem_toArray,List.getElem_cons_zero,List.getElem_cons_succ]
      refine wpAnyH_take (i:=29) (v:=?vb26x29) rfl (by kernel_rfl) (by kernel_rfl) (by kernel_rfl) (fun _ _ _ h=>h) (Or.inl ⟨by rfl,?hb26x29⟩) hHeld ?rb26x29
      case hb26x29=>intro w9 hSw;(try dsimp only at hSw);obtain ⟨v0,v1,v2,v3,v4,v5⟩:=V2.out.later (below_on B3.out hSw);obtain ⟨o0,o1,o2,o3,o4,o5⟩:=O2.out.later (below_on B3.out hSw);obtain ⟨m0,m1,m2,m3,m4,m5,m6,m7,m8⟩:=U2.out.later (below_on B3.out hSw);obtain ⟨l0,l1⟩:=L3.out.later hSw;first | (go_simp;done) | (go_simp;with_reducible rfl)
      try simp only [Act.put,List.setIfInBounds_toArray,List.set_cons_zero,List.set_cons_succ,List.getElem_toArray,List.getElem_cons_zero,List.getElem_cons_succ]
      refine wpAnyH_take (i:=30) (v:=?vb27x30) rfl (by kernel_rfl) (by kernel_rfl) (by kernel_rfl) (fun _ _ _ h=>h) (Or.inl ⟨by rfl,?hb27x30⟩) hHeld ?rb27x30
      case hb27x30=>intro w9 hSw;(try dsimp only at hSw);first | (go_simp;done) | (go_simp;with_reducible rfl)
      try simp only [Act.put,List.setIfInBounds_toArray,List.set_cons_zero,List.set_cons_succ,List.getElem_toArray,List.getElem_cons_zero,List.getElem_cons_succ]
      refine wpAnyH_take (i:=31) (v:=?vb28x31) rfl (by kernel_rfl) (by kernel_rfl) (by kernel_rfl) (fun _ _ _ h=>h) (Or.inl ⟨by rfl,?hb28x31⟩) hHeld ?rb28x31
      case hb28x31=>intro w9 hSw;(try dsimp only at hSw);first | (go_simp;done) | (go_simp;with_reducible rfl)
      try simp only [Act.put,List.setIfInBounds_toArray,List.set_cons_zero,List.set_cons_succ,List.getElem_toArray,List.getElem_cons_zero,List.getElem_cons_succ]
      refine wpAnyH_take (i:=32) (v:=?vb29x32) rfl (by kernel_rfl) (by kernel_rfl) (by kernel_rfl) (fun _ _ _ h=>h) (Or.inl ⟨by rfl,?hb29x32⟩) hHeld ?rb29x32
      case hb29x32=>intro w9 hSw;(try dsimp only at hSw);first | (go_simp;done) | (go_simp;with_reducible rfl)
      try simp only [Act.put,List.setIfInBounds_toArray,List.set_cons_zero,List.set_cons_succ,List.getElem_toArray,List.getElem_cons_zero,List.getElem_cons_succ]
      refine wpAnyH_take (i:=33) (v:=?vb30x33) rfl (by kernel_rfl) (by kernel_rfl) (by kernel_rfl) (fun _ _ _ h=>h) (Or.inl ⟨by rfl,?hb30x33⟩) hHeld ?rb30x33
      case hb30x33=>intro w9 hSw;(try dsimp only at hSw);obtain ⟨v0,v1,v2,v3,v4,v5⟩:=V2.out.later (below_on B3.out hSw);obtain ⟨o0,o1,o2,o3,o4,o5⟩:=O2.out.later (below_on B3.out hSw);obtain ⟨m0,m1,m2,m3,m4,m5,m6,m7,m8⟩:=U2.out.later (below_on B3.out hSw);obtain ⟨l0,l1⟩:=L3.out.later hSw;first | (go_simp;done) | (go_simp;with_reducible rfl)
      try simp only [Act.put,List.setIfInBounds_toArray,List.set_cons_zero,List.set_cons_succ,List.getElem_toArray,List.getElem_cons_zero,List.getElem_cons_succ]
      refine wpAnyH_take (i:=34) (v:=?vb31x34) rfl (by kernel_rfl) (by kernel_rfl) (by kernel_rfl) (fun _ _ _ h=>h) (Or.inl ⟨by rfl,?hb31x34⟩) hHeld ?rb31x34
      case hb31x34=>intro w9 hSw;(try dsimp only at hSw);first | (go_simp;done) | (go_simp;with_reducible rfl)
      try simp only [Act.put,List.setIfInBounds_toArray,List.set_cons_zero,List.set_cons_succ,List.getElem_toArray,List.getElem_cons_zero,List.getElem_cons_succ]
      refine wpAnyH_take (i:=35) (v:=?vb32x35) rfl (by kernel_rfl) (by kernel_rfl) (by kernel_rfl) (fun _ _ _ h=>h) (Or.inl ⟨by rfl,?hb32x35⟩) hHeld ?rb32x35
      case hb32x35=>intro w9 hSw;(try dsimp only at hSw);first | (go_simp;done) | (go_simp;with_reducible rfl)
      try simp only [Act.put,List.setIfInBounds_toArray,List.set_cons_zero,List.set_cons_succ,List.getElem_toArray,List.getElem_cons_zero,List.getElem_cons_succ]
      refine wpAnyH_take (i:=36) (v:=?vb33x36) rfl (by kernel_rfl) (by kernel_rfl) (by kernel_rfl) (fun _ _ _ h=>h) (Or.inl ⟨by rfl,?hb33x36⟩) hHeld ?rb33x36
      case hb33x36=>intro w9 hSw;(try dsimp only at hSw);first | (go_simp;done) | (go_simp;with_reducible rfl)
      try simp only [Act.put,List.setIfInBounds_toArray,List.set_cons_zero,List.set_cons_succ,List.getElem_toArray,List.getElem_cons_zero,List.getElem_cons_succ]
      refine wpAnyH_take (i:=37) (v:=?vb34x37) rfl (by kernel_rfl) (by kernel_rfl) (by kernel_rfl) (fun _ _ _ h=>h) (Or.inl ⟨by rfl,?hb34x37⟩) hHeld ?rb34x37
      case hb34x37=>intro w9 hSw;(try dsimp only at hSw);first | (go_simp;done) | (go_simp;with_reducible rfl)
      try simp only [Act.put,List.setIfInBounds_toArray,List.set_cons_zero,List.set_cons_succ,List.getElem_toArray,List.getElem_cons_zero,List.getElem_cons_succ]
      refine wpAnyH_take (i:=38) (v:=?vb35x38) rfl (by kernel_rfl) (by kernel_rfl) (by kernel_rfl) (fun _ _ _ h=>h) (Or.inl ⟨by rfl,?hb35x38⟩) hHeld ?rb35x38
      case hb35x38=>intro w9 hSw;(try dsimp only at hSw);obtain ⟨v0,v1,v2,v3,v4,v5⟩:=V2.out.later (below_on B3.out hSw);obtain ⟨o0,o1,o2,o3,o4,o5⟩:=O2.out.later (below_on B3.out hSw);obtain ⟨m0,m1,m2,m3,m4,m5,m6,m7,m8⟩:=U2.out.later (below_on B3.out hSw);obtain ⟨l0,l1⟩:=L3.out.later hSw;first | (go_simp;done) | (go_simp;with_reducible rfl)
      try simp only [Act.put,List.setIfInBounds_toArray,List.set_cons_zero,List.set_cons_succ,List.getElem_toArray,List.getElem_cons_zero,List.getElem_cons_succ]
      refine wpAnyH_take (i:=39) (v:=?vb36x39) rfl (by kernel_rfl) (by kernel_rfl) (by kernel_rfl) (fun _ _ _ h=>h) (Or.inl ⟨by rfl,?hb36x39⟩) hHeld ?rb36x39
      case hb36x39=>intro w9 hSw;(try dsimp only at hSw);obtain ⟨v0,v1,v2,v3,v4,v5⟩:=V2.out.later (below_on B3.out hSw);obtain ⟨o0,o1,o2,o3,o4,o5⟩:=O2.out.later (below_on B3.out hSw);obtain ⟨m0,m1,m2,m3,m4,m5,m6,m7,m8⟩:=U2.out.later (below_on B3.out hSw);obtain ⟨l0,l1⟩:=L3.out.later hSw;first | (go_simp;done) | (go_simp;with_reducible rfl)
      try simp only [Act.put,List.setIfInBounds_toArray,List.set_cons_zero,List.set_cons_succ,List.getElem_toArray,List.getElem_cons_zero,List.getElem_cons_succ]
      refine wpAnyH_ready (rs:=[40]) (by kernel_rfl) (by simp) (AllReadyH.cons rfl (fun K9 hK=>?_) AllReadyH.nil)
      go_simp
      go_at_call 12
      refine (KE.out _ HY4.out).mono ?_
      rintro e Y5 ⟨rfl,hb9⟩
      have HY5:=hide (below_on HY4.out hb9)
      clear hb9 hHeld
      refine hK.out _ _ HY5.out (fun hHeld=>?_)
      clear hK K9
      try simp only [Act.put,List.setIfInBounds_toArray,List.set_cons_zero,List.set_cons_succ,List.getElem_toArray,List.getElem_cons_zero,List.getElem_cons_succ]
      refine wpAnyH_take (i:=41) (v:=?vb37x41) rfl (by kernel_rfl) (by kernel_rfl) (by kernel_rfl) (fun _ _ _ h=>h) (Or.inl ⟨by rfl,?hb37x41⟩) hHeld ?rb37x41
      case hb37x41=>intro w9 hSw;(try dsimp only at hSw);first | (go_simp;done) | (go_simp;with_reducible rfl)
      try simp only [Act.put,List.setIfInBounds_toArray,List.set_cons_zero,List.set_cons_succ,List.getElem_toArray,List.getElem_cons_zero,List.getElem_cons_succ]
      refine wpAnyH_take (i:=42) (v:=?vb38x42) rfl (by kernel_rfl) (by kernel_rfl) (by kernel_rfl) (fun _ _ _ h=>h) (Or.inl ⟨by rfl,?hb38x42⟩) hHeld ?rb38x42
      case hb38x42=>intro w9 hSw;(try dsimp only at hSw);first | (go_simp;done) | (go_simp;with_reducible rfl)
      try simp only [Act.put,List.setIfInBounds_toArray,List.set_cons_zero,List.set_cons_succ,List.getElem_toArray,List.getElem_cons_zero,List.getElem_cons_succ]
      refine wpAnyH_take (i:=43) (v:=?vb39x43) rfl (by kernel_rfl) (by kernel_rfl) (by kernel_rfl) (fun _ _ _ h=>h) (Or.inl ⟨by rfl,?hb39x43⟩) hHeld ?rb39x43
      case hb39x43=>intro w9 hSw;(try dsimp only at hSw);first | (go_simp;done) | (go_simp;with_reducible rfl)
      try simp only [Act.put,List.setIfInBounds_toArray,List.set_cons_zero,List.set_cons_succ,List.getElem_toArray,List.getElem_cons_zero,List.getElem_cons_succ]
      refine wpAnyH_take (i:=44) (v:=?vb40x44) rfl (by kernel_rfl) (by kernel_rfl) (by kernel_rfl) (fun _ _ _ h=>h) (Or.inl ⟨by rfl,?hb40x44⟩) hHeld ?rb40x44
      case hb40x44=>intro w9 hSw;(try dsimp only at hSw);obtain ⟨v0,v1,v2,v3,v4,v5⟩:=V2.out.later (below_on B3.out hSw);obtain ⟨o0,o1,o2,o3,o4,o5⟩:=O2.out.later (below_on B3.out hSw);obtain ⟨m0,m1,m2,m3,m4,m5,m6,m7,m8⟩:=U2.out.later (below_on B3.out hSw);obtain ⟨l0,l1⟩:=L3.out.later hSw;first | (go_simp;done) | (go_simp;with_reducible rfl)
      try simp only [Act.put,List.setIfInBounds_toArray,List.set_cons_zero,List.set_cons_succ,List.getElem_toArray,List.getElem_cons_zero,List.getElem_cons_succ]
      refine wpAnyH_take (i:=45) (v:=?vb41x45) rfl (by kernel_rfl) (by kernel_rfl) (by kernel_rfl) (fun _ _ _ h=>h) (Or.inl ⟨by rfl,?hb41x45⟩) hHeld ?rb41x45
      case hb41x45=>intro w9 hSw;(try dsimp only at hSw);first | (go_simp;done) | (go_simp;with_reducible rfl)
      try simp only [Act.put,List.setIfInBounds_toArray,List.set_cons_zero,List.set_cons_succ,List.getElem_toArray,List.getElem_cons_zero,List.getElem_cons_succ]
      refine wpAnyH_take (i:=46) (v:=?vb42x46) rfl (by kernel_rfl) (by kernel_rfl) (by kernel_rfl) (fun _ _ _ h=>h) (Or.inl ⟨by rfl,?hb42x46⟩) hHeld ?rb42x46
      case hb42x46=>intro w9 hSw;(try dsimp only at hSw);obtain ⟨v0,v1,v2,v3,v4,v5⟩:=V2.out.later (below_on B3.out hSw);obtain ⟨o0,o1,o2,o3,o4,o5⟩:=O2.out.later (below_on B3.out hSw);obtain ⟨m0,m1,m2,m3,m4,m5,m6,m7,m8⟩:=U2.out.later (below_on B3.out hSw);obtain ⟨l0,l1⟩:=L3.out.later hSw;first | (go_simp;done) | (go_simp;with_reducible rfl)
      try simp only [Act.put,List.setIfInBounds_toArray,List.set_cons_zero,List.set_cons_succ,List.getElem_toArray,List.getElem_cons_zero,List.getElem_cons_succ]
      refine wpAnyH_ready (rs:=[47]) (by kernel_rfl) (by simp) (AllReadyH.cons rfl (fun K9 hK=>?_) AllReadyH.nil)
      go_simp
      go_at_call 13
      refine (KK.out _ HY5.out).mono ?_
      rintro e Y6 ⟨rfl,hb9⟩
      have HY6:=hide (below_on HY5.out hb9)
      clear hb9 hHeld
      refine hK.out _ _ HY6.out (fun hHeld=>?_)
      clear hK K9
      try simp only [Act.put,List.setIfInBounds_toArray,List.set_cons_zero,List.set_cons_succ,List.getElem_toArray,List.getElem_cons_zero,List.getElem_cons_succ]
      refine wpAnyH_take (i:=48) (v:=?vb43x48) rfl (by kernel_rfl) (by kernel_rfl) (by kernel_rfl) (fun _ _ _ h=>h) (Or.inl ⟨by rfl,?hb43x48⟩) hHeld ?rb43x48
      case hb43x48=>intro w9 hSw;(try dsimp only at hSw);first | (go_simp;done) | (go_simp;with_reducible rfl)
      try simp only [Act.put,List.setIfInBounds_toArray,List.set_cons_zero,List.set_cons_succ,List.getElem_toArray,List.getElem_cons_zero,List.getElem_cons_succ]
      refine wpAnyH_take (i:=49) (v:=?vb44x49) rfl (by kernel_rfl) (by kernel_rfl) (by kernel_rfl) (fun _ _ _ h=>h) (Or.inl ⟨by rfl,?hb44x49⟩) hHeld ?rb44x49
      case hb44x49=>intro w9 hSw;(try dsimp only at hSw);first | (go_simp;done) | (go_simp;with_reducible rfl)
      try simp only [Act.put,List.setIfInBounds_toArray,List.set_cons_zero,List.set_cons_succ,List.getElem_toArray,List.getElem_cons_zero,List.getElem_cons_succ]
      refine wpAnyH_take (i:=50) (v:=?vb45x50) rfl (by kernel_rfl) (by kernel_rfl) (by kernel_rfl) (fun _ _ _ h=>h) (Or.inl ⟨by rfl,?hb45x50⟩) hHeld ?rb45x50
      case hb45x50=>intro w9 hSw;(try dsimp only at hSw);first | (go_simp;done) | (go_simp;with_reducible rfl)
      try simp only [Act.put,List.setIfInBounds_toArray,List.set_cons_zero,List.set_cons_succ,List.getElem_toArray,List.getElem_cons_zero,List.getElem_cons_succ]
      refine wpAnyH_take (i:=51) (v:=?vb46x51) rfl (by kernel_rfl) (by kernel_rfl) (by kernel_rfl) (fun _ _ _ h=>h) (Or.inl ⟨by rfl,?hb46x51⟩) hHeld ?rb46x51
      case hb46x51=>intro w9 hSw;(try dsimp only at hSw);obtain ⟨v0,v1,v2,v3,v4,v5⟩:=V2.out.later (below_on B3.out hSw);obtain ⟨o0,o1,o2,o3,o4,o5⟩:=O2.out.later (below_on B3.out hSw);obtain ⟨m0,m1,m2,m3,m4,m5,m6,m7,m8⟩:=U2.out.later (below_on B3.out hSw);obtain ⟨l0,l1⟩:=L3.out.later hSw;first | (go_simp;done) | (go_simp;with_reducible rfl)
      try simp only [Act.put,List.setIfInBounds_toArray,List.set_cons_zero,List.set_cons_succ,List.getElem_toArray,List.getElem_cons_zero,List.getElem_cons_succ]
      refine wpAnyH_take (i:=52) (v:=?vb47x52) rfl (by kernel_rfl) (by kernel_rfl) (by kernel_rfl) (fun _ _ _ h=>h) (Or.inl ⟨by rfl,?hb47x52⟩) hHeld ?rb47x52
      case hb47x52=>intro w9 hSw;(try dsimp only at hSw);first | (go_simp;done) | (go_simp;with_reducible rfl)
      try simp only [Act.put,List.setIfInBounds_toArray,List.set_cons_zero,List.set_cons_succ,List.getElem_toArray,List.getElem_cons_zero,List.getElem_cons_succ]
      refine wpAnyH_take (i:=53) (v:=?vb48x53) rfl (by kernel_rfl) (by kernel_rfl) (by kernel_rfl) (fun _ _ _ h=>h) (Or.inl ⟨by rfl,?hb48x53⟩) hHeld ?rb48x53
      case hb48x53=>intro w9 hSw;(try dsimp only at hSw);first | (go_simp;done) | (go_simp;with_reducible rfl)
      try simp only [Act.put,List.setIfInBounds_toArray,List.set_cons_zero,List.set_cons_succ,List.getElem_toArray,List.getElem_cons_zero,List.getElem_cons_succ]
      refine wpAnyH_take (i:=54) (v:=?vb49x54) rfl (by kernel_rfl) (by kernel_rfl) (by kernel_rfl) (fun _ _ _ h=>h) (Or.inl ⟨by rfl,?hb49x54⟩) hHeld ?rb49x54
      case hb49x54=>intro w9 hSw;(try dsimp only at hSw);first | (go_simp;done) | (go_simp;with_reducible rfl)
      try simp only [Act.put,List.setIfInBounds_toArray,List.set_cons_zero,List.set_cons_succ,List.getElem_toArray,List.getElem_cons_zero,List.getElem_cons_succ]
      refine wpAnyH_take (i:=55) (v:=?vb50x55) rfl (by kernel_rfl) (by kernel_rfl) (by kernel_rfl) (fun _ _ _ h=>h) (Or.inl ⟨by rfl,?hb50x55⟩) hHeld ?rb50x55
      case hb50x55=>intro w9 hSw;(try dsimp only at hSw);first | (go_simp;done) | (go_simp;with_reducible rfl)
      try simp only [Act.put,List.setIfInBounds_toArray,List.set_cons_zero,List.set_cons_succ,List.getElem_toArray,List.getElem_cons_zero,List.getElem_cons_succ]
      refine wpAnyH_take (i:=56) (v:=?vb51x56) rfl (by kernel_rfl) (by kernel_rfl) (by kernel_rfl) (fun _ _ _ h=>h) (Or.inl ⟨by rfl,?hb51x56⟩) hHeld ?rb51x56
      case hb51x56=>intro w9 hSw;(try dsimp only at hSw);obtain ⟨v0,v1,v2,v3,v4,v5⟩:=V2.out.later (below_on B3.out hSw);obtain ⟨o0,o1,o2,o3,o4,o5⟩:=O2.out.later (below_on B3.out hSw);obtain ⟨m0,m1,m2,m3,m4,m5,m6,m7,m8⟩:=U2.out.later (below_on B3.out hSw);obtain ⟨l0,l1⟩:=L3.out.later hSw;first | (go_simp;done) | (go_simp;with_reducible rfl)
      try simp only [Act.put,List.setIfInBounds_toArray,List.set_cons_zero,List.set_cons_succ,List.getElem_toArray,List.getElem_cons_zero,List.getElem_cons_succ]
      refine wpAnyH_ready (rs:=[57]) (by kernel_rfl) (by simp) (AllReadyH.cons rfl (fun K9 hK=>?_) AllReadyH.nil)
      go_simp
      go_at_call 14
      refine (KH.out _ HY6.out).mono ?_
      rintro e Y7 ⟨rfl,rfl⟩
      refine hK.out _ _ hHeld (fun hHeld=>?_)
      clear hK K9
      try simp only [Act.put,List.setIfInBounds_toArray,List.set_cons_zero,List.set_cons_succ,List.getElem_toArray,List.getElem_cons_zero,List.getElem_cons_succ]
      refine wpAnyH_take (i:=58) (v:=?vb52x58) rfl (by kernel_rfl) (by kernel_rfl) (by kernel_rfl) (fun _ _ _ h=>h) (Or.inl ⟨by rfl,?hb52x58⟩) hHeld ?rb52x58
      case hb52x58=>intro w9 hSw;(try dsimp only at hSw);first | (go_simp;done) | (go_simp;with_reducible rfl)
      try simp only [Act.put,List.setIfInBounds_toArray,List.set_cons_zero,List.set_cons_succ,List.getElem_toArray,List.getElem_cons_zero,List.getElem_cons_succ]
      refine wpAnyH_take (i:=59) (v:=?vb53x59) rfl (by kernel_rfl) (by kernel_rfl) (by kernel_rfl) (fun _ _ _ h=>h) (Or.inl ⟨by rfl,?hb53x59⟩) hHeld ?rb53x59
      case hb53x59=>intro w9 hSw;(try dsimp only at hSw);first | (go_simp;done) | (go_simp;with_reducible rfl)
      try simp only [Act.put,List.setIfInBounds_toArray,List.set_cons_zero,List.set_cons_succ,List.getElem_toArray,List.getElem_cons_zero,List.getElem_cons_succ]
      refine wpAnyH_done (by kernel_rfl) ?_ _
      go_wp2
      go_ret
      exact ⟨by simp,below_on B1.out (below_on B2.out (below_on B3.out HY6.out))⟩
     ·have hq5:(Q.tm !=5)=true:=by simpa using hQ5
      clear hQ5
      refine wp_region_held_drew (S:=fun w'=>Below W3.heap.size W3 w') (by kernel_rfl) (below_on HB.out (below_drewN wr 1)) (fun hHeld=>?_)
      refine forgetH (fun wx=>Below W3.heap.size W3 wx) hHeld ?_
      clear hHeld
      rintro Y0 hHeld
      have HY0:=hide hHeld
      clear HB
      refine wpAnyH_take (i:=0) (v:=?vc54x0) rfl (by kernel_rfl) (by kernel_rfl) (by kernel_rfl) (fun _ _ _ h=>h) (Or.inl ⟨by rfl,?hc54x0⟩) hHeld ?rc54x0
      case hc54x0=>intro w9 hSw;(try dsimp only at hSw);first | (go_simp;done) | (go_simp;with_reducible rfl)
      try simp only [Act.put,List.setIfInBounds_toArray,List.set_cons_zero,List.set_cons_succ,List.getElem_toArray,List.getElem_cons_zero]
      refine wpAnyH_take (i:=1) (v:=?vc55x1) rfl (by kernel_rfl) (by kernel_rfl) (by kernel_rfl) (fun _ _ _ h=>h) (Or.inl ⟨by rfl,?hc55x1⟩) hHeld ?rc55x1
      case hc55x1=>intro w9 hSw;(try dsimp only at hSw);obtain ⟨v0,v1,v2,v3,v4,v5⟩:=V2.out.later (below_on B3.out hSw);obtain ⟨o0,o1,o2,o3,o4,o5⟩:=O2.out.later (below_on B3.out hSw);obtain ⟨m0,m1,m2,m3,m4,m5,m6,m7,m8⟩:=U2.out.later (below_on B3.out hSw);obtain ⟨l0,l1⟩:=L3.out.later hSw;first | (go_simp;done) | (go_simp;with_reducible rfl)
      try simp only [Act.put,List.setIfInBounds_toArray,List.set_cons_zero,List.set_cons_succ,List.getElem_toArray,List.getElem_cons_zero,List.getElem_cons_succ]
      refine wpAnyH_ready (rs:=[2]) (by kernel_rfl) (by simp) (AllReadyH.cons rfl (fun K9 hK=>?_) AllReadyH.nil)
      go_simp
      go_at_call 10
      refine (KR.out _ HY0.out).mono ?_
      rintro e Y1 ⟨rfl,hb9⟩
      have HY1:=hide (below_on HY0.out hb9)
      clear hb9 hHeld
      refine hK.out _ _ HY1.out (fun hHeld=>?_)
      clear hK K9
      try simp only [Act.put,List.setIfInBounds_toArray,List.set_cons_zero,List.set_cons_succ,List.getElem_toArray,List.getElem_cons_zero,List.getElem_cons_succ]
      refine wpAnyH_take (i:=3) (v:=?vc56x3) rfl (by kernel_rfl) (by kernel_rfl) (by kernel_rfl) (fun _ _ _ h=>h) (Or.inl ⟨by rfl,?hc56x3⟩) hHeld ?rc56x3
      case hc56x3=>intro w9 hSw;(try dsimp only at hSw);first | (go_simp;done) | (go_simp;with_reducible rfl)
      try simp only [Act.put,List.setIfInBounds_toArray,List.set_cons_zero,List.set_cons_succ,List.getElem_toArray,List.getElem_cons_zero,List.getElem_cons_succ]
      refine wpAnyH_take (i:=4) (v:=?vc57x4) rfl (by kernel_rfl) (by kernel_rfl) (by kernel_rfl) (fun _ _ _ h=>h) (Or.inl ⟨by rfl,?hc57x4⟩) hHeld ?rc57x4
      case hc57x4=>intro w9 hSw;(try dsimp only at hSw);first | (go_simp;done) | (go_simp;with_reducible rfl)
      try simp only [Act.put,List.setIfInBounds_toArray,List.set_cons_zero,List.set_cons_succ,List.getElem_toArray,List.getElem_cons_zero,List.getElem_cons_succ]
      refine wpAnyH_take (i:=5) (v:=?vc58x5) rfl (by kernel_rfl) (by kernel_rfl) (by kernel_rfl) (fun _ _ _ h=>h) (Or.inl ⟨by rfl,?hc58x5⟩) hHeld ?rc58x5
      case hc58x5=>intro w9 hSw;(try dsimp only at hSw);obtain ⟨v0,v1,v2,v3,v4,v5⟩:=V2.out.later (below_on B3.out hSw);obtain ⟨o0,o1,o2,o3,o4,o5⟩:=O2.out.later (below_on B3.out hSw);obtain ⟨m0,m1,m2,m3,m4,m5,m6,m7,m8⟩:=U2.out.later (below_on B3.out hSw);obtain ⟨l0,l1⟩:=L3.out.later hSw;first | (go_simp;done) | (go_simp;with_reducible rfl)
      try simp only [Act.put,List.setIfInBounds_toArray,List.set_cons_zero,List.set_cons_succ,List.getElem_toArray,List.getElem_cons_zero,List.getElem_cons_succ]
      refine wpAnyH_ready (rs:=[6]) (by kernel_rfl) (by simp) (AllReadyH.cons rfl (fun K9 hK=>?_) AllReadyH.nil)
      go_simp
      go_at_call 11
      refine (KO.out _ HY1.out).mono ?_
      rintro e Y2 ⟨rfl,hb9⟩
      have HY2:=hide (below_on HY1.out hb9)
      clear hb9 hHeld
      refine hK.out _ _ HY2.out (fun hHeld=>?_)
      clear hK K9
      try simp only [Act.put,List.setIfInBounds_toArray,List.set_cons_zero,List.set_cons_succ,List.getElem_toArray,List.getElem_cons_zero,List.getElem_cons_succ]
      refine wpAnyH_take (i:=7) (v:=?vc59x7) rfl (by kernel_rfl) (by kernel_rfl) (by kernel_rfl) (fun _ _ _ h=>h) (Or.inl ⟨by rfl,?hc59x7⟩) hHeld ?rc59x7
      case hc59x7=>intro w9 hSw;(try dsimp only at hSw);first | (go_simp;done) | (go_simp;with_reducible rfl)
      try simp only [Act.put,List.setIfInBounds_toArray,List.set_cons_zero,List.set_cons_succ,List.getElem_toArray,List.getElem_cons_zero,List.getElem_cons_succ]
      refine wpAnyH_take (i:=8) (v:=?vc60x8) rfl (by kernel_rfl) (by kernel_rfl) (by kernel_rfl) (fun _ _ _ h=>h) (Or.inl ⟨by rfl,?hc60x8⟩) hHeld ?rc60x8
      case hc60x8=>intro w9 hSw;(try dsimp only at hSw);first | (go_simp;done) | (go_simp;with_reducible rfl)
      try simp only [Act.put,List.setIfInBounds_toArray,List.set_cons_zero,List.set_cons_succ,List.getElem_toArray,List.getElem_cons_zero,List.getElem_cons_succ]
      refine wpAnyH_take (i:=9) (v:=?vc61x9) rfl (by kernel_rfl) (by kernel_rfl) (by kernel_rfl) (fun _ _ _ h=>h) (Or.inl ⟨by rfl,?hc61x9⟩) hHeld ?rc61x9
      case hc61x9=>intro w9 hSw;(try dsimp only at hSw);first | (go_simp;done) | (go_simp;with_reducible rfl)
      try simp only [Act.put,List.setIfInBounds_toArray,List.set_cons_zero,List.set_cons_succ,List.getElem_toArray,List.getElem_cons_zero,List.getElem_cons_succ]
      refine wpAnyH_take (i:=10) (v:=?vc62x10) rfl (by kernel_rfl) (by kernel_rfl) (by kernel_rfl) (fun _ _ _ h=>h) (Or.inl ⟨by rfl,?hc62x10⟩) hHeld ?rc62x10
      case hc62x10=>intro w9 hSw;(try dsimp only at hSw);first | (go_simp;done) | (go_simp;with_reducible rfl)
      try simp only [Act.put,List.setIfInBounds_toArray,List.set_cons_zero,List.set_cons_succ,List.getElem_toArray,List.getElem_cons_zero,List.getElem_cons_succ]
      refine wpAnyH_take (i:=11) (v:=?vc63x11) rfl (by kernel_rfl) (by kernel_rfl) (by kernel_rfl) (fun _ _ _ h=>h) (Or.inl ⟨by rfl,?hc63x11⟩) hHeld ?rc63x11
      case hc63x11=>intro w9 hSw;(try dsimp only at hSw);obtain ⟨v0,v1,v2,v3,v4,v5⟩:=V2.out.later (below_on B3.out hSw);obtain ⟨o0,o1,o2,o3,o4,o5⟩:=O2.out.later (below_on B3.out hSw);obtain ⟨m0,m1,m2,m3,m4,m5,m6,m7,m8⟩:=U2.out.later (below_on B3.out hSw);obtain ⟨l0,l1⟩:=L3.out.later hSw;first | (go_simp;done) | (go_simp;with_reducible rfl)
      try simp only [Act.put,List.setIfInBounds_toArray,List.set_cons_zero,List.set_cons_succ,List.getElem_toArray,List.getElem_cons_zero,List.getElem_cons_succ]
      refine wpAnyH_take (i:=12) (v:=?vc64x12) rfl (by kernel_rfl) (by kernel_rfl) (by kernel_rfl) (fun _ _ _ h=>h) (Or.inl ⟨by rfl,?hc64x12⟩) hHeld ?rc64x12
      case hc64x12=>intro w9 hSw;(try dsimp only at hSw);obtain ⟨v0,v1,v2,v3,v4,v5⟩:=V2.out.later (below_on B3.out hSw);obtain ⟨o0,o1,o2,o3,o4,o5⟩:=O2.out.later (below_on B3.out hSw);obtain ⟨m0,m1,m2,m3,m4,m5,m6,m7,m8⟩:=U2.out.later (below_on B3.out hSw);obtain ⟨l0,l1⟩:=L3.out.later hSw;first | (go_simp;done) | (go_simp;with_reducible rfl)
      try simp only [Act.put,List.setIfInBounds_toArray,List.set_cons_zero,List.set_cons_succ,List.getElem_toArray,List.getElem_cons_zero,List.getElem_cons_succ]
      refine wpAnyH_take (i:=13) (v:=?vc65x13) rfl (by kernel_rfl) (by kernel_rfl) (by kernel_rfl) (fun _ _ _ h=>h) (Or.inl ⟨by rfl,?hc65x13⟩) hHeld ?rc65x13
      case hc65x13=>intro w9 hSw;(try dsimp only at hSw);obtain ⟨v0,v1,v2,v3,v4,v5⟩:=V2.out.later (below_on B3.out hSw);obtain ⟨o0,o1,o2,o3,o4,o5⟩:=O2.out.later (below_on B3.out hSw);obtain ⟨m0,m1,m2,m3,m4,m5,m6,m7,m8⟩:=U2.out.later (below_on B3.out hSw);obtain ⟨l0,l1⟩:=L3.out.later hSw;first | (go_simp;done) | (go_simp;with_reducible rfl)
      try simp only [Act.put,List.setIfInBounds_toArray,List.set_cons_zero,List.set_cons_succ,List.getElem_toArray,List.getElem_cons_zero,List.getElem_cons_succ]
      refine wpAnyH_ready (rs:=[14]) (by kernel_rfl) (by simp) (AllReadyH.cons rfl (fun K9 hK=>?_) AllReadyH.nil)
      go_simp
      go_at_call 8
      refine (KS.out _ (below_on B2.out (below_on B3.out HY2.out))).mono ?_
      rintro e Y3 ⟨y8,z8,rfl,hb9,_⟩
      have HY3:=hide (below_on HY2.out hb9)
      clear hb9 hHeld
      refine hK.out _ _ HY3.out (fun hHeld=>?_)
      clear hK K9
      try simp only [Act.put,List.setIfInBounds_toArray,List.set_cons_zero,List.set_cons_succ,List.getElem_toArray,List.getElem_cons_zero,List.getElem_cons_succ]
      refine wpAnyH_take (i:=15) (v:=?vc66x15) rfl (by kernel_rfl) (by kernel_rfl) (by kernel_rfl) (fun _ _ _ h=>h) (Or.inl ⟨by rfl,?hc66x15⟩) hHeld ?rc66x15
      case hc66x15=>intro w9 hSw;(try dsimp only at hSw);first | (go_simp;done) | (go_simp;with_reducible rfl) | (go_simp;rw [fO1];done) | (go_simp;rw [fO1];rfl)
      try simp only [Act.put,List.setIfInBounds_toArray,List.set_cons_zero,List.set_cons_succ,List.getElem_toArray,List.getElem_cons_zero,List.getElem_cons_succ]
      refine wpAnyH_take (i:=16) (v:=?vc67x16) rfl (by kernel_rfl) (by kernel_rfl) (by kernel_rfl) (fun _ _ _ h=>h) (Or.inl ⟨by rfl,?hc67x16⟩) hHeld ?rc67x16
      case hc67x16=>intro w9 hSw;(try dsimp only at hSw);first | (go_simp;done) | (go_simp;with_reducible rfl)
      try simp only [Act.put,List.setIfInBounds_toArray,List.set_cons_zero,List.set_cons_succ,List.getElem_toArray,List.getElem_cons_zero,List.getElem_cons_succ]
      refine wpAnyH_take (i:=17) (v:=?vc68x17) rfl (by kernel_rfl) (by kernel_rfl) (by kernel_rfl) (fun _ _ _ h=>h) (Or.inl ⟨by rfl,?hc68x17⟩) hHeld ?rc68x17
      case hc68x17=>intro w9 hSw;(try dsimp only at hSw);first | (go_simp;done) | (go_simp;with_reducible rfl)
      try simp only [Act.put,List.setIfInBounds_toArray,List.set_cons_zero,List.set_cons_succ,List.getElem_toArray,List.getElem_cons_zero,List.getElem_cons_succ]
      refine wpAnyH_take (i:=18) (v:=?vc69x18) rfl (by kernel_rfl) (by kernel_rfl) (by kernel_rfl) (fun _ _ _ h=>h) (Or.inl ⟨by rfl,?hc69x18⟩) hHeld ?rc69x18
      case hc69x18=>intro w9 hSw;(try dsimp only at hSw);first | (go_simp;done) | (go_simp;with_reducible rfl)
      try simp only [Act.put,List.setIfInBounds_toArray,List.set_cons_zero,List.set_cons_succ,List.getElem_toArray,List.getElem_cons_zero,List.getElem_cons_succ]
      refine wpAnyH_take (i:=19) (v:=?vc70x19) rfl (by kernel_rfl) (by kernel_rfl) (by kernel_rfl) (fun _ _ _ h=>h) (Or.inl ⟨by rfl,?hc70x19⟩) hHeld ?rc70x19
      case hc70x19=>intro w9 hSw;(try dsimp only at hSw);first | (go_simp;done) | (go_simp;with_reducible rfl)
      try simp only [Act.put,List.setIfInBounds_toArray,List.set_cons_zero,List.set_cons_succ,List.getElem_toArray,List.getElem_cons_zero,List.getElem_cons_succ]
      refine wpAnyH_take (i:=20) (v:=?vc71x20) rfl (by kernel_rfl) (by kernel_rfl) (by kernel_rfl) (fun _ _ _ h=>h) (Or.inl ⟨by rfl,?hc71x20⟩) hHeld ?rc71x20
      case hc71x20=>intro w9 hSw;(try dsimp only at hSw);obtain ⟨v0,v1,v2,v3,v4,v5⟩:=V2.out.later (below_on B3.out hSw);obtain ⟨o0,o1,o2,o3,o4,o5⟩:=O2.out.later (below_on B3.out hSw);obtain ⟨m0,m1,m2,m3,m4,m5,m6,m7,m8⟩:=U2.out.later (below_on B3.out hSw);obtain ⟨l0,l1⟩:=L3.out.later hSw;first | (go_simp;done) | (go_simp;with_reducible rfl)
      try simp only [Act.put,List.setIfInBounds_toArray,List.set_cons_zero,List.set_cons_succ,List.getElem_toArray,List.getElem_cons_zero,List.getElem_cons_succ]
      refine wpAnyH_take (i:=21) (v:=?vc72x21) rfl (by kernel_rfl) (by kernel_rfl) (by kernel_rfl) (fun _ _ _ h=>h) (Or.inl ⟨by rfl,?hc72x21⟩) hHeld ?rc72x21
      case hc72x21=>intro w9 hSw;(try dsimp only at hSw);obtain ⟨v0,v1,v2,v3,v4,v5⟩:=V2.out.later (below_on B3.out hSw);obtain ⟨o0,o1,o2,o3,o4,o5⟩:=O2.out.later (below_on B3.out hSw);obtain ⟨m0,m1,m2,m3,m4,m5,m6,m7,m8⟩:=U2.out.later (below_on B3.out hSw);obtain ⟨l0,l1⟩:=L3.out.later hSw;first | (go_simp;done) | (go_simp;with_reducible rfl)
      try simp only [Act.put,List.setIfInBounds_toArray,List.set_cons_zero,List.set_cons_succ,List.getElem_toArray,List.getElem_cons_zero,List.getElem_cons_succ]
      refine wpAnyH_take (i:=22) (v:=?vc73x22) rfl (by kernel_rfl) (by kernel_rfl) (by kernel_rfl) (fun _ _ _ h=>h) (Or.inl ⟨by rfl,?hc73x22⟩) hHeld ?rc73x22
      case hc73x22=>intro w9 hSw;(try dsimp only at hSw);obtain ⟨v0,v1,v2,v3,v4,v5⟩:=V2.out.later (below_on B3.out hSw);obtain ⟨o0,o1,o2,o3,o4,o5⟩:=O2.out.later (below_on B3.out hSw);obtain ⟨m0,m1,m2,m3,m4,m5,m6,m7,m8⟩:=U2.out.later (below_on B3.out hSw);obtain ⟨l0,l1⟩:=L3.out.later hSw;first | (go_simp;done) | (go_simp;with_reducible rfl)
      try simp only [Act.put,List.setIfInBounds_toArray,List.set_cons_zero,List.set_cons_succ,List.getElem_toArray,List.getElem_cons_zero,List.getElem_cons_succ]
      refine wpAnyH_ready (rs:=[23]) (by kernel_rfl) (by simp) (AllReadyH.cons rfl (fun K9 hK=>?_) AllReadyH.nil)
      go_simp
      go_at_call 8
      refine (KS.out _ (below_on B2.out (below_on B3.out HY3.out))).mono ?_
      rintro e Y4 ⟨y8,z8,rfl,hb9,_⟩
      have HY4:=hide (below_on HY3.out hb9)
      clear hb9 hHeld
      refine hK.out _ _ HY4.out (fun hHeld=>?_)
      clear hK K9
      try simp only [Act.put,List.setIfInBounds_toArray,List.set_cons_zero,List.set_cons_succ,List.getElem_toArray,List.getElem_cons_zero,List.getElem_cons_succ]
      refine wpAnyH_take (i:=24) (v:=?vc74x24) rfl (by kernel_rfl) (by kernel_rfl) (by kernel_rfl) (fun _ _ _ h=>h) (Or.inl ⟨by rfl,?hc74x24⟩) hHeld ?rc74x24
      case hc74x24=>intro w9 hSw;(try dsimp only at hSw);first | (go_simp;done) | (go_simp;with_reducible rfl) | (go_simp;rw [fO2];done) | (go_simp;rw [fO2];rfl)
      try simp only [Act.put,List.setIfInBounds_toArray,List.set_cons_zero,List.set_cons_succ,List.getElem_toArray,List.getElem_cons_zero,List.getElem_cons_succ]
      refine wpAnyH_take (i:=25) (v:=?vc75x25) rfl (by kernel_rfl) (by kernel_rfl) (by kernel_rfl) (fun _ _ _ h=>h) (Or.inl ⟨by rfl,?hc75x25⟩) hHeld ?rc75x25
      case hc75x25=>intro w9 hSw;(try dsimp only at hSw);first | (go_simp;done) | (go_simp;with_reducible rfl)
      try simp only [Act.put,List.setIfInBounds_toArray,List.set_cons_zero,List.set_cons_succ,List.getElem_toArray,List.getElem_cons_zero,List.getElem_cons_succ]
      refine wpAnyH_take (i:=26) (v:=?vc76x26) rfl (by kernel_rfl) (by kernel_rfl) (by kernel_rfl) (fun _ _ _ h=>h) (Or.inl ⟨by rfl,?hc76x26⟩) hHeld ?rc76x26
      case hc76x26=>intro w9 hSw;(try dsimp only at hSw);first | (go_simp;done) | (go_simp;with_reducible rfl)
      try simp only [Act.put,List.setIfInBounds_toArray,List.set_cons_zero,List.set_cons_succ,List.getElem_toArray,List.getElem_cons_zero,List.getElem_cons_succ]
      refine wpAnyH_take (i:=27) (v:=?vc77x27) rfl (by kernel_rfl) (by kernel_rfl) (by kernel_rfl) (fun _ _ _ h=>h) (Or.inl ⟨by rfl,?hc77x27⟩) hHeld ?rc77x27
      case hc77x27=>intro w9 hSw;(try dsimp only at hSw);first | (go_simp;done) | (go_simp;with_reducible rfl)
      try simp only [Act.put,List.setIfInBounds_toArray,List.set_cons_zero,List.set_cons_succ,List.getElem_toArray,List.getElem_cons_zero,List.getElem_cons_succ]
      refine wpAnyH_take (i:=28) (v:=?vc78x28) rfl (by kernel_rfl) (by kernel_rfl) (by kernel_rfl) (fun _ _ _ h=>h) (Or.inl ⟨by rfl,?hc78x28⟩) hHeld ?rc78x28
      case hc78x28=>intro w9 hSw;(try dsimp only at hSw);first | (go_simp;done) | (go_simp;with_reducible rfl)
      try simp only [Act.put,List.setIfInBounds_toArray,List.set_cons_zero,List.set_cons_succ,List.getElem_toArray,List.getElem_cons_zero,List.getElem_cons_succ]
      refine wpAnyH_take (i:=29) (v:=?vc79x29) rfl (by kernel_rfl) (by kernel_rfl) (by kernel_rfl) (fun _ _ _ h=>h) (Or.inl ⟨by rfl,?hc79x29⟩) hHeld ?rc79x29
      case hc79x29=>intro w9 hSw;(try dsimp only at hSw);obtain ⟨v0,v1,v2,v3,v4,v5⟩:=V2.out.later (below_on B3.out hSw);obtain ⟨o0,o1,o2,o3,o4,o5⟩:=O2.out.later (below_on B3.out hSw);obtain ⟨m0,m1,m2,m3,m4,m5,m6,m7,m8⟩:=U2.out.later (below_on B3.out hSw);obtain ⟨l0,l1⟩:=L3.out.later hSw;first | (go_simp;done) | (go_simp;with_reducible rfl)
      try simp only [Act.put,List.setIfInBounds_toArray,List.set_cons_zero,List.set_cons_succ,List.getElem_toArray,List.getElem_cons_zero,List.getElem_cons_succ]
      refine wpAnyH_take (i:=30) (v:=?vc80x30) rfl (by kernel_rfl) (by kernel_rfl) (by kernel_rfl) (fun _ _ _ h=>h) (Or.inl ⟨by rfl,?hc80x30⟩) hHeld ?rc80x30
      case hc80x30=>intro w9 hSw;(try dsimp only at hSw);first | (go_simp;done) | (go_simp;with_reducible rfl)
      try simp only [Act.put,List.setIfInBounds_toArray,List.set_cons_zero,List.set_cons_succ,List.getElem_toArray,List.getElem_cons_zero,List.getElem_cons_succ]
      refine wpAnyH_take (i:=31) (v:=?vc81x31) rfl (by kernel_rfl) (by kernel_rfl) (by kernel_rfl) (fun _ _ _ h=>h) (Or.inl ⟨by rfl,?hc81x31⟩) hHeld ?rc81x31
      case hc81x31=>intro w9 hSw;(try dsimp only at hSw);first | (go_simp;done) | (go_simp;with_reducible rfl)
      try simp only [Act.put,List.setIfInBounds_toArray,List.set_cons_zero,List.set_cons_succ,List.getElem_toArray,List.getElem_cons_zero,List.getElem_cons_succ]
      refine wpAnyH_take (i:=32) (v:=?vc82x32) rfl (by kernel_rfl) (by kernel_rfl) (by kernel_rfl) (fun _ _ _ h=>h) (Or.inl ⟨by rfl,?hc82x32⟩) hHeld ?rc82x32
      case hc82x32=>intro w9 hSw;(try dsimp only at hSw);first | (go_simp;done) | (go_simp;with_reducible rfl)
      try simp only [Act.put,List.setIfInBounds_toArray,List.set_cons_zero,List.set_cons_succ,List.getElem_toArray,List.getElem_cons_zero,List.getElem_cons_succ]
      refine wpAnyH_take (i:=33) (v:=?vc83x33) rfl (by kernel_rfl) (by kernel_rfl) (by kernel_rfl) (fun _ _ _ h=>h) (Or.inl ⟨by rfl,?hc83x33⟩) hHeld ?rc83x33
      case hc83x33=>intro w9 hSw;(try dsimp only at hSw);obtain ⟨v0,v1,v2,v3,v4,v5⟩:=V2.out.later (below_on B3.out hSw);obtain ⟨o0,o1,o2,o3,o4,o5⟩:=O2.out.later (below_on B3.out hSw);obtain ⟨m0,m1,m2,m3,m4,m5,m6,m7,m8⟩:=U2.out.later (below_on B3.out hSw);obtain ⟨l0,l1⟩:=L3.out.later hSw;first | (go_simp;done) | (go_simp;with_reducible rfl)
      try simp only [Act.put,List.setIfInBounds_toArray,List.set_cons_zero,List.set_cons_succ,List.getElem_toArray,List.getElem_cons_zero,List.getElem_cons_succ]
      refine wpAnyH_take (i:=34) (v:=?vc84x34) rfl (by kernel_rfl) (by kernel_rfl) (by kernel_rfl) (fun _ _ _ h=>h) (Or.inl ⟨by rfl,?hc84x34⟩) hHeld ?rc84x34
      case hc84x34=>intro w9 hSw;(try dsimp only at hSw);first | (go_simp;done) | (go_simp;with_reducible rfl)
      try simp only [Act.put,List.setIfInBounds_toArray,List.set_cons_zero,List.set_cons_succ,List.getElem_toArray,List.getElem_cons_zero,List.getElem_cons_succ]
      refine wpAnyH_take (i:=35) (v:=?vc85x35) rfl (by kernel_rfl) (by kernel_rfl) (by kernel_rfl) (fun _ _ _ h=>h) (Or.inl ⟨by rfl,?hc85x35⟩) hHeld ?rc85x35
      case hc85x35=>intro w9 hSw;(try dsimp only at hSw);first | (go_simp;done) | (go_simp;with_reducible rfl)
      try simp only [Act.put,List.setIfInBounds_toArray,List.set_cons_zero,List.set_cons_succ,List.getElem_toArray,List.getElem_cons_zero,List.getElem_cons_succ]
      refine wpAnyH_take (i:=36) (v:=?vc86x36) rfl (by kernel_rfl) (by kernel_rfl) (by kernel_rfl) (fun _ _ _ h=>h) (Or.inl ⟨by rfl,?hc86x36⟩) hHeld ?rc86x36
      case hc86x36=>intro w9 hSw;(try dsimp only at hSw);first | (go_simp;done) | (go_simp;with_reducible rfl)
      try simp only [Act.put,List.setIfInBounds_toArray,List.set_cons_zero,List.set_cons_succ,List.getElem_toArray,List.getElem_cons_zero,List.getElem_cons_succ]
      refine wpAnyH_take (i:=37) (v:=undef) rfl (by kernel_rfl) (by kernel_rfl) (by kernel_rfl) (fun _ _ _ h=>h) (Or.inr ⟨by rfl,rfl⟩) hHeld ?_
      try simp only [Act.put,List.setIfInBounds_toArray,List.set_cons_zero,List.set_cons_succ,List.getElem_toArray,List.getElem_cons_zero,List.getElem_cons_succ]
      refine wpAnyH_take (i:=38) (v:=undef) rfl (by kernel_rfl) (by kernel_rfl) (by kernel_rfl) (fun _ _ _ h=>h) (Or.inr ⟨by rfl,rfl⟩) hHeld ?_
      try simp only [Act.put,List.setIfInBounds_toArray,List.set_cons_zero,List.set_cons_succ,List.getElem_toArray,List.getElem_cons_zero,List.getElem_cons_succ]
      refine wpAnyH_take (i:=39) (v:=undef) rfl (by kernel_rfl) (by kernel_rfl) (by kernel_rfl) (fun _ _ _ h=>h) (Or.inr ⟨by rfl,rfl⟩) hHeld ?_
      try simp only [Act.put,List.setIfInBounds_toArray,List.set_cons_zero,List.set_cons_succ,List.getElem_toArray,List.getElem_cons_zero,List.getElem_cons_succ]
      refine wpAnyH_take (i:=40) (v:=undef) rfl (by kernel_rfl) (by kernel_rfl) (by kernel_rfl) (fun _ _ _ h=>h) (Or.inr ⟨by rfl,rfl⟩) hHeld ?_
      try simp only [Act.put,List.setIfInBounds_toArray,List.set_cons_zero,List.set_cons_succ,List.getElem_toArray,List.getElem_cons_zero,List.getElem_cons_succ]
      refine wpAnyH_take (i:=41) (v:=?vc87x41) rfl (by kernel_rfl) (by kernel_rfl) (by kernel_rfl) (fun _ _ _ h=>h) (Or.inl ⟨by rfl,?hc87x41⟩) hHeld ?rc87x41
      case hc87x41=>intro w9 hSw;(try dsimp only at hSw);first | (go_simp;done) | (go_simp;with_reducible rfl)
      try simp only [Act.put,List.setIfInBounds_toArray,List.set_cons_zero,List.set_cons_succ,List.getElem_toArray,List.getElem_cons_zero,List.getElem_cons_succ]
      refine wpAnyH_take (i:=42) (v:=?vc88x42) rfl (by kernel_rfl) (by kernel_rfl) (by kernel_rfl) (fun _ _ _ h=>h) (Or.inl ⟨by rfl,?hc88x42⟩) hHeld ?rc88x42
      case hc88x42=>intro w9 hSw;(try dsimp only at hSw);first | (go_simp;done) | (go_simp;with_reducible rfl)
      try simp only [Act.put,List.setIfInBounds_toArray,List.set_cons_zero,List.set_cons_succ,List.getElem_toArray,List.getElem_cons_zero,List.getElem_cons_succ]
      refine wpAnyH_take (i:=43) (v:=?vc89x43) rfl (by kernel_rfl) (by kernel_rfl) (by kernel_rfl) (fun _ _ _ h=>h) (Or.inl ⟨by rfl,?hc89x43⟩) hHeld ?rc89x43
      case hc89x43=>intro w9 hSw;(try dsimp only at hSw);first | (go_simp;done) | (go_simp;with_reducible rfl)
      try simp only [Act.put,List.setIfInBounds_toArray,List.set_cons_zero,List.set_cons_succ,List.getElem_toArray,List.getElem_cons_zero,List.getElem_cons_succ]
      refine wpAnyH_take (i:=44) (v:=?vc90x44) rfl (by kernel_rfl) (by kernel_rfl) (by kernel_rfl) (fun _ _ _ h=>h) (Or.inl ⟨by rfl,?hc90x44⟩) hHeld ?rc90x44
      case hc90x44=>intro w9 hSw;(try dsimp only at hSw);obtain ⟨v0,v1,v2,v3,v4,v5⟩:=V2.out.later (below_on B3.out hSw);obtain ⟨o0,o1,o2,o3,o4,o5⟩:=O2.out.later (below_on B3.out hSw);obtain ⟨m0,m1,m2,m3,m4,m5,m6,m7,m8⟩:=U2.out.later (below_on B3.out hSw);obtain ⟨l0,l1⟩:=L3.out.later hSw;first | (go_simp;done) | (go_simp;with_reducible rfl)
      try simp only [Act.put,List.setIfInBounds_toArray,List.set_cons_zero,List.set_cons_succ,List.getElem_toArray,List.getElem_cons_zero,List.getElem_cons_succ]
      refine wpAnyH_take (i:=45) (v:=?vc91x45) rfl (by kernel_rfl) (by kernel_rfl) (by kernel_rfl) (fun _ _ _ h=>h) (Or.inl ⟨by rfl,?hc91x45⟩) hHeld ?rc91x45
      case hc91x45=>intro w9 hSw;(try dsimp only at hSw);first | (go_simp;done) | (go_simp;with_reducible rfl)
      try simp only [Act.put,List.setIfInBounds_toArray,List.set_cons_zero,List.set_cons_succ,List.getElem_toArray,List.getElem_cons_zero,List.getElem_cons_succ]
      refine wpAnyH_take (i:=46) (v:=?vc92x46) rfl (by kernel_rfl) (by kernel_rfl) (by kernel_rfl) (fun _ _ _ h=>h) (Or.inl ⟨by rfl,?hc92x46⟩) hHeld ?rc92x46
      case hc92x46=>intro w9 hSw;(try dsimp only at hSw);obtain ⟨v0,v1,v2,v3,v4,v5⟩:=V2.out.later (below_on B3.out hSw);obtain ⟨o0,o1,o2,o3,o4,o5⟩:=O2.out.later (below_on B3.out hSw);obtain ⟨m0,m1,m2,m3,m4,m5,m6,m7,m8⟩:=U2.out.later (below_on B3.out hSw);obtain ⟨l0,l1⟩:=L3.out.later hSw;first | (go_simp;done) | (go_simp;with_reducible rfl)
      try simp only [Act.put,List.setIfInBounds_toArray,List.set_cons_zero,List.set_cons_succ,List.getElem_toArray,List.getElem_cons_zero,List.getElem_cons_succ]
      refine wpAnyH_ready (rs:=[47]) (by kernel_rfl) (by simp) (AllReadyH.cons rfl (fun K9 hK=>?_) AllReadyH.nil)
      go_simp
      go_at_call 13
      refine (KK.out _ HY4.out).mono ?_
      rintro e Y6 ⟨rfl,hb9⟩
      have HY6:=hide (below_on HY4.out hb9)
      clear hb9 hHeld
      refine hK.out _ _ HY6.out (fun hHeld=>?_)
      clear hK K9
      try simp only [Act.put,List.setIfInBounds_toArray,List.set_cons_zero,List.set_cons_succ,List.getElem_toArray,List.getElem_cons_zero,List.getElem_cons_succ]
      refine wpAnyH_take (i:=48) (v:=?vc93x48) rfl (by kernel_rfl) (by kernel_rfl) (by kernel_rfl) (fun _ _ _ h=>h) (Or.inl ⟨by rfl,?hc93x48⟩) hHeld ?rc93x48
      case hc93x48=>intro w9 hSw;(try dsimp only at hSw);first | (go_simp;done) | (go_simp;with_reducible rfl)
      try simp only [Act.put,List.setIfInBounds_toArray,List.set_cons_zero,List.set_cons_succ,List.getElem_toArray,List.getElem_cons_zero,List.getElem_cons_succ]
      refine wpAnyH_take (i:=49) (v:=?vc94x49) rfl (by kernel_rfl) (by kernel_rfl) (by kernel_rfl) (fun _ _ _ h=>h) (Or.inl ⟨by rfl,?hc94x49⟩) hHeld ?rc94x49
      case hc94x49=>intro w9 hSw;(try dsimp only at hSw);first | (go_simp;done) | (go_simp;with_reducible rfl)
      try simp only [Act.put,List.setIfInBounds_toArray,List.set_cons_zero,List.set_cons_succ,List.getElem_toArray,List.getElem_cons_zero,List.getElem_cons_succ]
      refine wpAnyH_take (i:=50) (v:=?vc95x50) rfl (by kernel_rfl) (by kernel_rfl) (by kernel_rfl) (fun _ _ _ h=>h) (Or.inl ⟨by rfl,?hc95x50⟩) hHeld ?rc95x50
      case hc95x50=>intro w9 hSw;(try dsimp only at hSw);first | (go_simp;done) | (go_simp;with_reducible rfl)
      try simp only [Act.put,List.setIfInBounds_toArray,List.set_cons_zero,List.set_cons_succ,List.getElem_toArray,List.getElem_cons_zero,List.getElem_cons_succ]
      refine wpAnyH_take (i:=51) (v:=?vc96x51) rfl (by kernel_rfl) (by kernel_rfl) (by kernel_rfl) (fun _ _ _ h=>h) (Or.inl ⟨by rfl,?hc96x51⟩) hHeld ?rc96x51
      case hc96x51=>intro w9 hSw;(try dsimp only at hSw);obtain ⟨v0,v1,v2,v3,v4,v5⟩:=V2.out.later (below_on B3.out hSw);obtain ⟨o0,o1,o2,o3,o4,o5⟩:=O2.out.later (below_on B3.out hSw);obtain ⟨m0,m1,m2,m3,m4,m5,m6,m7,m8⟩:=U2.out.later (below_on B3.out hSw);obtain ⟨l0,l1⟩:=L3.out.later hSw;first | (go_simp;done) | (go_simp;with_reducible rfl)
      try simp only [Act.put,List.setIfInBounds_toArray,List.set_cons_zero,List.set_cons_succ,List.getElem_toArray,List.getElem_cons_zero,List.getElem_cons_succ]
      refine wpAnyH_take (i:=52) (v:=?vc97x52) rfl (by kernel_rfl) (by kernel_rfl) (by kernel_rfl) (fun _ _ _ h=>h) (Or.inl ⟨by rfl,?hc97x52⟩) hHeld ?rc97x52
      case hc97x52=>intro w9 hSw;(try dsimp only at hSw);first | (go_simp;done) | (go_simp;with_reducible rfl)
      try simp only [Act.put,List.setIfInBounds_toArray,List.set_cons_zero,List.set_cons_succ,List.getElem_toArray,List.getElem_cons_zero,List.getElem_cons_succ]
      refine wpAnyH_take (i:=53) (v:=?vc98x53) rfl (by kernel_rfl) (by kernel_rfl) (by kernel_rfl) (fun _ _ _ h=>h) (Or.inl ⟨by rfl,?hc98x53⟩) hHeld ?rc98x53
      case hc98x53=>intro w9 hSw;(try dsimp only at hSw);first | (go_simp;done) | (go_simp;with_reducible rfl)
      try simp only [Act.put,List.setIfInBounds_toArray,List.set_cons_zero,List.set_cons_succ,List.getElem_toArray,List.getElem_cons_zero,List.getElem_cons_succ]
      refine wpAnyH_take (i:=54) (v:=?vc99x54) rfl (by kernel_rfl) (by kernel_rfl) (by kernel_rfl) (fun _ _ _ h=>h) (Or.inl ⟨by rfl,?hc99x54⟩) hHeld ?rc99x54
      case hc99x54=>intro w9 hSw;(try dsimp only at hSw);first | (go_simp;done) | (go_simp;with_reducible rfl)
      try simp only [Act.put,List.setIfInBounds_toArray,List.set_cons_zero,List.set_cons_succ,List.getElem_toArray,List.getElem_cons_zero,List.getElem_cons_succ]
      refine wpAnyH_take (i:=55) (v:=?vc100x55) rfl (by kernel_rfl) (by kernel_rfl) (by kernel_rfl) (fun _ _ _ h=>h) (Or.inl ⟨by rfl,?hc100x55⟩) hHeld ?rc100x55
      case hc100x55=>intro w9 hSw;(try dsimp only at hSw);first | (go_simp;done) | (go_simp;with_reducible rfl)
      try simp only [Act.put,List.setIfInBounds_toArray,List.set_cons_zero,List.set_cons_succ,List.getElem_toArray,List.getElem_cons_zero,List.getElem_cons_succ]
      refine wpAnyH_take (i:=56) (v:=?vc101x56) rfl (by kernel_rfl) (by kernel_rfl) (by kernel_rfl) (fun _ _ _ h=>h) (Or.inl ⟨by rfl,?hc101x56⟩) hHeld ?rc101x56
      case hc101x56=>intro w9 hSw;(try dsimp only at hSw);obtain ⟨v0,v1,v2,v3,v4,v5⟩:=V2.out.later (below_on B3.out hSw);obtain ⟨o0,o1,o2,o3,o4,o5⟩:=O2.out.later (below_on B3.out hSw);obtain ⟨m0,m1,m2,m3,m4,m5,m6,m7,m8⟩:=U2.out.later (below_on B3.out hSw);obtain ⟨l0,l1⟩:=L3.out.later hSw;first | (go_simp;done) | (go_simp;with_reducible rfl)
      try simp only [Act.put,List.setIfInBounds_toArray,List.set_cons_zero,List.set_cons_succ,List.getElem_toArray,List.getElem_cons_zero,List.getElem_cons_succ]
      refine wpAnyH_ready (rs:=[57]) (by kernel_rfl) (by simp) (AllReadyH.cons rfl (fun K9 hK=>?_) AllReadyH.nil)
      go_simp
      go_at_call 14
      refine (KH.out _ HY6.out).mono ?_
      rintro e Y7 ⟨rfl,rfl⟩
      refine hK.out _ _ hHeld (fun hHeld=>?_)
      clear hK K9
      try simp only [Act.put,List.setIfInBounds_toArray,List.set_cons_zero,List.set_cons_succ,List.getElem_toArray,List.getElem_cons_zero,List.getElem_cons_succ]
      refine wpAnyH_take (i:=58) (v:=?vc102x58) rfl (by kernel_rfl) (by kernel_rfl) (by kernel_rfl) (fun _ _ _ h=>h) (Or.inl ⟨by rfl,?hc102x58⟩) hHeld ?rc102x58
      case hc102x58=>intro w9 hSw;(try dsimp only at hSw);first | (go_simp;done) | (go_simp;with_reducible rfl)
      try simp only [Act.put,List.setIfInBounds_toArray,List.set_cons_zero,List.set_cons_succ,List.getElem_toArray,List.getElem_cons_zero,List.getElem_cons_succ]
      refine wpAnyH_take (i:=59) (v:=?vc103x59) rfl (by kernel_rfl) (by kernel_rfl) (by kernel_rfl) (fun _ _ _ h=>h) (Or.inl ⟨by rfl,?hc103x59⟩) hHeld ?rc103x59
      case hc103x59=>intro w9 hSw;(try dsimp only at hSw);first | (go_simp;done) | (go_simp;with_reducible rfl)
      try simp only [Act.put,List.setIfInBounds_toArray,List.set_cons_zero,List.set_cons_succ,List.getElem_toArray,List.getElem_cons_zero,List.getElem_cons_succ]
      refine wpAnyH_done (by kernel_rfl) ?_ _
      go_wp2
      go_ret
      exact ⟨by simp,below_on B1.out (below_on B2.out (below_on B3.out HY6.out))⟩
    ·have hXR:=HSame.out (Or.inl hY)
     have hsr:sameR X R=true:=by rw [hXR];exact sameR_sameo R
     rw [hsr] at KE
     clear hXR hsr
     have hyb:(Y==0)=false:=by simpa using hY
     clear hY
     refine wp_region_held_drew (S:=fun w'=>Below W3.heap.size W3 w') (by kernel_rfl) (below_on HB.out (below_drewN wr 1)) (fun hHeld=>?_)
     refine forgetH (fun wx=>Below W3.heap.size W3 wx) hHeld ?_
     clear hHeld
     rintro Y0 hHeld
     have HY0:=hide hHeld
     clear HB
     refine wpAnyH_take (i:=0) (v:=?va104x0) rfl (by kernel_rfl) (by kernel_rfl) (by kernel_rfl) (fun _ _ _ h=>h) (Or.inl ⟨by rfl,?ha104x0⟩) hHeld ?ra104x0
     case ha104x0=>intro w9 hSw;(try dsimp only at hSw);first | (go_simp;done) | (go_simp;with_reducible rfl)
     try simp only [Act.put,List.setIfInBounds_toArray,List.set_cons_zero,List.set_cons_succ,List.getElem_toArray,List.getElem_cons_zero]
     refine wpAnyH_take (i:=1) (v:=?va105x1) rfl (by kernel_rfl) (by kernel_rfl) (by kernel_rfl) (fun _ _ _ h=>h) (Or.inl ⟨by rfl,?ha105x1⟩) hHeld ?ra105x1
     case ha105x1=>intro w9 hSw;(try dsimp only at hSw);obtain ⟨v0,v1,v2,v3,v4,v5⟩:=V2.out.later (below_on B3.out hSw);obtain ⟨o0,o1,o2,o3,o4,o5⟩:=O2.out.later (below_on B3.out hSw);obtain ⟨m0,m1,m2,m3,m4,m5,m6,m7,m8⟩:=U2.out.later (below_on B3.out hSw);obtain ⟨l0,l1⟩:=L3.out.later hSw;first | (go_simp;done) | (go_simp;with_reducible rfl)
     try simp only [Act.put,List.setIfInBounds_toArray,List.set_cons_zero,List.set_cons_succ,List.getElem_toArray,List.getElem_cons_zero,List.getElem_cons_succ]
     refine wpAnyH_ready (rs:=[2]) (by kernel_rfl) (by simp) (AllReadyH.cons rfl (fun K9 hK=>?_) AllReadyH.nil)
     go_simp
     go_at_call 10
     refine (KR.out _ HY0.out).mono ?_
     rintro e Y1 ⟨rfl,hb9⟩
     have HY1:=hide (below_on HY0.out hb9)
     clear hb9 hHeld
     refine hK.out _ _ HY1.out (fun hHeld=>?_)
     clear hK K9
     try simp only [Act.put,List.setIfInBounds_toArray,List.set_cons_zero,List.set_cons_succ,List.getElem_toArray,List.getElem_cons_zero,List.getElem_cons_succ]
     refine wpAnyH_take (i:=3) (v:=?va106x3) rfl (by kernel_rfl) (by kernel_rfl) (by kernel_rfl) (fun _ _ _ h=>h) (Or.inl ⟨by rfl,?ha106x3⟩) hHeld ?ra106x3
     case ha106x3=>intro w9 hSw;(try dsimp only at hSw);first | (go_simp;done) | (go_simp;with_reducible rfl)
     try simp only [Act.put,List.setIfInBounds_toArray,List.set_cons_zero,List.set_cons_succ,List.getElem_toArray,List.getElem_cons_zero,List.getElem_cons_succ]
     refine wpAnyH_take (i:=4) (v:=?va107x4) rfl (by kernel_rfl) (by kernel_rfl) (by kernel_rfl) (fun _ _ _ h=>h) (Or.inl ⟨by rfl,?ha107x4⟩) hHeld ?ra107x4
     case ha107x4=>intro w9 hSw;(try dsimp only at hSw);first | (go_simp;done) | (go_simp;with_reducible rfl)
     try simp only [Act.put,List.setIfInBounds_toArray,List.set_cons_zero,List.set_cons_succ,List.getElem_toArray,List.getElem_cons_zero,List.getElem_cons_succ]
     refine wpAnyH_take (i:=5) (v:=?va108x5) rfl (by kernel_rfl) (by kernel_rfl) (by kernel_rfl) (fun _ _ _ h=>h) (Or.inl ⟨by rfl,?ha108x5⟩) hHeld ?ra108x5
     case ha108x5=>intro w9 hSw;(try dsimp only at hSw);obtain ⟨v0,v1,v2,v3,v4,v5⟩:=V2.out.later (below_on B3.out hSw);obtain ⟨o0,o1,o2,o3,o4,o5⟩:=O2.out.later (below_on B3.out hSw);obtain ⟨m0,m1,m2,m3,m4,m5,m6,m7,m8⟩:=U2.out.later (below_on B3.out hSw);obtain ⟨l0,l1⟩:=L3.out.later hSw;first | (go_simp;done) | (go_simp;with_reducible rfl)
     try simp only [Act.put,List.setIfInBounds_toArray,List.set_cons_zero,List.set_cons_succ,List.getElem_toArray,List.getElem_cons_zero,List.getElem_cons_succ]
     refine wpAnyH_ready (rs:=[6]) (by kernel_rfl) (by simp) (AllReadyH.cons rfl (fun K9 hK=>?_) AllReadyH.nil)
     go_simp
     go_at_call 11
     refine (KO.out _ HY1.out).mono ?_
     rintro e Y2 ⟨rfl,hb9⟩
     have HY2:=hide (below_on HY1.out hb9)
     clear hb9 hHeld
     refine hK.out _ _ HY2.out (fun hHeld=>?_)
     clear hK K9
     try simp only [Act.put,List.setIfInBounds_toArray,List.set_cons_zero,List.set_cons_succ,List.getElem_toArray,List.getElem_cons_zero,List.getElem_cons_succ]
     refine wpAnyH_take (i:=7) (v:=?va109x7) rfl (by kernel_rfl) (by kernel_rfl) (by kernel_rfl) (fun _ _ _ h=>h) (Or.inl ⟨by rfl,?ha109x7⟩) hHeld ?ra109x7
     case ha109x7=>intro w9 hSw;(try dsimp only at hSw);first | (go_simp;done) | (go_simp;with_reducible rfl)
     try simp only [Act.put,List.setIfInBounds_toArray,List.set_cons_zero,List.set_cons_succ,List.getElem_toArray,List.getElem_cons_zero,List.getElem_cons_succ]
     refine wpAnyH_take (i:=8) (v:=?va110x8) rfl (by kernel_rfl) (by kernel_rfl) (by kernel_rfl) (fun _ _ _ h=>h) (Or.inl ⟨by rfl,?ha110x8⟩) hHeld ?ra110x8
     case ha110x8=>intro w9 hSw;(try dsimp only at hSw);first | (go_simp;done) | (go_simp;with_reducible rfl)
     try simp only [Act.put,List.setIfInBounds_toArray,List.set_cons_zero,List.set_cons_succ,List.getElem_toArray,List.getElem_cons_zero,List.getElem_cons_succ]
     refine wpAnyH_take (i:=9) (v:=?va111x9) rfl (by kernel_rfl) (by kernel_rfl) (by kernel_rfl) (fun _ _ _ h=>h) (Or.inl ⟨by rfl,?ha111x9⟩) hHeld ?ra111x9
     case ha111x9=>intro w9 hSw;(try dsimp only at hSw);first | (go_simp;done) | (go_simp;with_reducible rfl)
     try simp only [Act.put,List.setIfInBounds_toArray,List.set_cons_zero,List.set_cons_succ,List.getElem_toArray,List.getElem_cons_zero,List.getElem_cons_succ]
     refine wpAnyH_take (i:=10) (v:=?va112x10) rfl (by kernel_rfl) (by kernel_rfl) (by kernel_rfl) (fun _ _ _ h=>h) (Or.inl ⟨by rfl,?ha112x10⟩) hHeld ?ra112x10
     case ha112x10=>intro w9 hSw;(try dsimp only at hSw);first | (go_simp;done) | (go_simp;with_reducible rfl)
     try simp only [Act.put,List.setIfInBounds_toArray,List.set_cons_zero,List.set_cons_succ,List.getElem_toArray,List.getElem_cons_zero,List.getElem_cons_succ]
     refine wpAnyH_take (i:=11) (v:=?va113x11) rfl (by kernel_rfl) (by kernel_rfl) (by kernel_rfl) (fun _ _ _ h=>h) (Or.inl ⟨by rfl,?ha113x11⟩) hHeld ?ra113x11
     case ha113x11=>intro w9 hSw;(try dsimp only at hSw);obtain ⟨v0,v1,v2,v3,v4,v5⟩:=V2.out.later (below_on B3.out hSw);obtain ⟨o0,o1,o2,o3,o4,o5⟩:=O2.out.later (below_on B3.out hSw);obtain ⟨m0,m1,m2,m3,m4,m5,m6,m7,m8⟩:=U2.out.later (below_on B3.out hSw);obtain ⟨l0,l1⟩:=L3.out.later hSw;first | (go_simp;done) | (go_simp;with_reducible rfl)
     try simp only [Act.put,List.setIfInBounds_toArray,List.set_cons_zero,List.set_cons_succ,List.getElem_toArray,List.getElem_cons_zero,List.getElem_cons_succ]
     refine wpAnyH_take (i:=12) (v:=?va114x12) rfl (by kernel_rfl) (by kernel_rfl) (by kernel_rfl) (fun _ _ _ h=>h) (Or.inl ⟨by rfl,?ha114x12⟩) hHeld ?ra114x12
     case ha114x12=>intro w9 hSw;(try dsimp only at hSw);obtain ⟨v0,v1,v2,v3,v4,v5⟩:=V2.out.later (below_on B3.out hSw);obtain ⟨o0,o1,o2,o3,o4,o5⟩:=O2.out.later (below_on B3.out hSw);obtain ⟨m0,m1,m2,m3,m4,m5,m6,m7,m8⟩:=U2.out.later (below_on B3.out hSw);obtain ⟨l0,l1⟩:=L3.out.later hSw;first | (go_simp;done) | (go_simp;with_reducible rfl)
     try simp only [Act.put,List.setIfInBounds_toArray,List.set_cons_zero,List.set_cons_succ,List.getElem_toArray,List.getElem_cons_zero,List.getElem_cons_succ]
     refine wpAnyH_take (i:=13) (v:=?va115x13) rfl (by kernel_rfl) (by kernel_rfl) (by kernel_rfl) (fun _ _ _ h=>h) (Or.inl ⟨by rfl,?ha115x13⟩) hHeld ?ra115x13
     case ha115x13=>intro w9 hSw;(try dsimp only at hSw);obtain ⟨v0,v1,v2,v3,v4,v5⟩:=V2.out.later (below_on B3.out hSw);obtain ⟨o0,o1,o2,o3,o4,o5⟩:=O2.out.later (below_on B3.out hSw);obtain ⟨m0,m1,m2,m3,m4,m5,m6,m7,m8⟩:=U2.out.later (below_on B3.out hSw);obtain ⟨l0,l1⟩:=L3.out.later hSw;first | (go_simp;done) | (go_simp;with_reducible rfl)
     try simp only [Act.put,List.setIfInBounds_toArray,List.set_cons_zero,List.set_cons_succ,List.getElem_toArray,List.getElem_cons_zero,List.getElem_cons_succ]
     refine wpAnyH_ready (rs:=[14]) (by kernel_rfl) (by simp) (AllReadyH.cons rfl (fun K9 hK=>?_) AllReadyH.nil)
     go_simp
     go_at_call 8
     refine (KS.out _ (below_on B2.out (below_on B3.out HY2.out))).mono ?_
     rintro e Y3 ⟨y8,z8,rfl,hb9,_⟩
     have HY3:=hide (below_on HY2.out hb9)
     clear hb9 hHeld
     refine hK.out _ _ HY3.out (fun hHeld=>?_)
     clear hK K9
     try simp only [Act.put,List.setIfInBounds_toArray,List.set_cons_zero,List.set_cons_succ,List.getElem_toArray,List.getElem_cons_zero,List.getElem_cons_succ]
     refine wpAnyH_take (i:=15) (v:=?va116x15) rfl (by kernel_rfl) (by kernel_rfl) (by kernel_rfl) (fun _ _ _ h=>h) (Or.inl ⟨by rfl,?ha116x15⟩) hHeld ?ra116x15
     case ha116x15=>intro w9 hSw;(try dsimp only at hSw);first | (go_simp;done) | (go_simp;with_reducible rfl) | (go_simp;rw [fO1];done) | (go_simp;rw [fO1];rfl)
     try simp only [Act.put,List.setIfInBounds_toArray,List.set_cons_zero,List.set_cons_succ,List.getElem_toArray,List.getElem_cons_zero,List.getElem_cons_succ]
     refine wpAnyH_take (i:=16) (v:=?va117x16) rfl (by kernel_rfl) (by kernel_rfl) (by kernel_rfl) (fun _ _ _ h=>h) (Or.inl ⟨by rfl,?ha117x16⟩) hHeld ?ra117x16
     case ha117x16=>intro w9 hSw;(try dsimp only at hSw);first | (go_simp;done) | (go_simp;with_reducible rfl)
     try simp only [Act.put,List.setIfInBounds_toArray,List.set_cons_zero,List.set_cons_succ,List.getElem_toArray,List.getElem_cons_zero,List.getElem_cons_succ]
     refine wpAnyH_take (i:=17) (v:=?va118x17) rfl (by kernel_rfl) (by kernel_rfl) (by kernel_rfl) (fun _ _ _ h=>h) (Or.inl ⟨by rfl,?ha118x17⟩) hHeld ?ra118x17
     case ha118x17=>intro w9 hSw;(try dsimp only at hSw);first | (go_simp;done) | (go_simp;with_reducible rfl)
     try simp only [Act.put,List.setIfInBounds_toArray,List.set_cons_zero,List.set_cons_succ,List.getElem_toArray,List.getElem_cons_zero,List.getElem_cons_succ]
     refine wpAnyH_take (i:=18) (v:=?va119x18) rfl (by kernel_rfl) (by kernel_rfl) (by kernel_rfl) (fun _ _ _ h=>h) (Or.inl ⟨by rfl,?ha119x18⟩) hHeld ?ra119x18
     case ha119x18=>intro w9 hSw;(try dsimp only at hSw);first | (go_simp;done) | (go_simp;with_reducible rfl)
     try simp only [Act.put,List.setIfInBounds_toArray,List.set_cons_zero,List.set_cons_succ,List.getElem_toArray,List.getElem_cons_zero,List.getElem_cons_succ]
     refine wpAnyH_take (i:=19) (v:=?va120x19) rfl (by kernel_rfl) (by kernel_rfl) (by kernel_rfl) (fun _ _ _ h=>h) (Or.inl ⟨by rfl,?ha120x19⟩) hHeld ?ra120x19
     case ha120x19=>intro w9 hSw;(try dsimp only at hSw);first | (go_simp;done) | (go_simp;with_reducible rfl)
     try simp only [Act.put,List.setIfInBounds_toArray,List.set_cons_zero,List.set_cons_succ,List.getElem_toArray,List.getElem_cons_zero,List.getElem_cons_succ]
     refine wpAnyH_take (i:=20) (v:=?va121x20) rfl (by kernel_rfl) (by kernel_rfl) (by kernel_rfl) (fun _ _ _ h=>h) (Or.inl ⟨by rfl,?ha121x20⟩) hHeld ?ra121x20
     case ha121x20=>intro w9 hSw;(try dsimp only at hSw);obtain ⟨v0,v1,v2,v3,v4,v5⟩:=V2.out.later (below_on B3.out hSw);obtain ⟨o0,o1,o2,o3,o4,o5⟩:=O2.out.later (below_on B3.out hSw);obtain ⟨m0,m1,m2,m3,m4,m5,m6,m7,m8⟩:=U2.out.later (below_on B3.out hSw);obtain ⟨l0,l1⟩:=L3.out.later hSw;first | (go_simp;done) | (go_simp;with_reducible rfl)
     try simp only [Act.put,List.setIfInBounds_toArray,List.set_cons_zero,List.set_cons_succ,List.getElem_toArray,List.getElem_cons_zero,List.getElem_cons_succ]
     refine wpAnyH_take (i:=21) (v:=?va122x21) rfl (by kernel_rfl) (by kernel_rfl) (by kernel_rfl) (fun _ _ _ h=>h) (Or.inl ⟨by rfl,?ha122x21⟩) hHeld ?ra122x21
     case ha122x21=>intro w9 hSw;(try dsimp only at hSw);obtain ⟨v0,v1,v2,v3,v4,v5⟩:=V2.out.later (below_on B3.out hSw);obtain ⟨o0,o1,o2,o3,o4,o5⟩:=O2.out.later (below_on B3.out hSw);obtain ⟨m0,m1,m2,m3,m4,m5,m6,m7,m8⟩:=U2.out.later (below_on B3.out hSw);obtain ⟨l0,l1⟩:=L3.out.later hSw;first | (go_simp;done) | (go_simp;with_reducible rfl)
     try simp only [Act.put,List.setIfInBounds_toArray,List.set_cons_zero,List.set_cons_succ,List.getElem_toArray,List.getElem_cons_zero,List.getElem_cons_succ]
     refine wpAnyH_take (i:=22) (v:=?va123x22) rfl (by kernel_rfl) (by kernel_rfl) (by kernel_rfl) (fun _ _ _ h=>h) (Or.inl ⟨by rfl,?ha123x22⟩) hHeld ?ra123x22
     case ha123x22=>intro w9 hSw;(try dsimp only at hSw);obtain ⟨v0,v1,v2,v3,v4,v5⟩:=V2.out.later (below_on B3.out hSw);obtain ⟨o0,o1,o2,o3,o4,o5⟩:=O2.out.later (below_on B3.out hSw);obtain ⟨m0,m1,m2,m3,m4,m5,m6,m7,m8⟩:=U2.out.later (below_on B3.out hSw);obtain ⟨l0,l1⟩:=L3.out.later hSw;first | (go_simp;done) | (go_simp;with_reducible rfl)
     try simp only [Act.put,List.setIfInBounds_toArray,List.set_cons_zero,List.set_cons_succ,List.getElem_toArray,List.getElem_cons_zero,List.getElem_cons_succ]
     refine wpAnyH_ready (rs:=[23]) (by kernel_rfl) (by simp) (AllReadyH.cons rfl (fun K9 hK=>?_) AllReadyH.nil)
     go_simp
     go_at_call 8
     refine (KS.out _ (below_on B2.out (below_on B3.out HY3.out))).mono ?_
     rintro e Y4 ⟨y8,z8,rfl,hb9,_⟩
     have HY4:=hide (below_on HY3.out hb9)
     clear hb9 hHeld
     refine hK.out _ _ HY4.out (fun hHeld=>?_)
     clear hK K9
     try simp only [Act.put,List.setIfInBounds_toArray,List.set_cons_zero,List.set_cons_succ,List.getElem_toArray,List.getElem_cons_zero,List.getElem_cons_succ]
     refine wpAnyH_take (i:=24) (v:=?va124x24) rfl (by kernel_rfl) (by kernel_rfl) (by kernel_rfl) (fun _ _ _ h=>h) (Or.inl ⟨by rfl,?ha124x24⟩) hHeld ?ra124x24
     case ha124x24=>intro w9 hSw;(try dsimp only at hSw);first | (go_simp;done) | (go_simp;with_reducible rfl) | (go_simp;rw [fO2];done) | (go_simp;rw [fO2];rfl)
     try simp only [Act.put,List.setIfInBounds_toArray,List.set_cons_zero,List.set_cons_succ,List.getElem_toArray,List.getElem_cons_zero,List.getElem_cons_succ]
     refine wpAnyH_take (i:=25) (v:=?va125x25) rfl (by kernel_rfl) (by kernel_rfl) (by kernel_rfl) (fun _ _ _ h=>h) (Or.inl ⟨by rfl,?ha125x25⟩) hHeld ?ra125x25
     case ha125x25=>intro w9 hSw;(try dsimp only at hSw);first | (go_simp;done) | (go_simp;with_reducible rfl)
     try simp only [Act.put,List.setIfInBounds_toArray,List.set_cons_zero,List.set_cons_succ,List.getElem_toArray,List.getElem_cons_zero,List.getElem_cons_succ]
     refine wpAnyH_take (i:=26) (v:=?va126x26) rfl (by kernel_rfl) (by kernel_rfl) (by kernel_rfl) (fun _ _ _ h=>h) (Or.inl ⟨by rfl,?ha126x26⟩) hHeld ?ra126x26
     case ha126x26=>intro w9 hSw;(try dsimp only at hSw);first | (go_simp;done) | (go_simp;with_reducible rfl)
     try simp only [Act.put,List.setIfInBounds_toArray,List.set_cons_zero,List.set_cons_succ,List.getElem_toArray,List.getElem_cons_zero,List.getElem_cons_succ]
     refine wpAnyH_take (i:=27) (v:=?va127x27) rfl (by kernel_rfl) (by kernel_rfl) (by kernel_rfl) (fun _ _ _ h=>h) (Or.inl ⟨by rfl,?ha127x27⟩) hHeld ?ra127x27
     case ha127x27=>intro w9 hSw;(try dsimp only at hSw);first | (go_simp;done) | (go_simp;with_reducible rfl)
     try simp only [Act.put,List.setIfInBounds_toArray,List.set_cons_zero,List.set_cons_succ,List.getElem_toArray,List.getElem_cons_zero,List.getElem_cons_succ]
     refine wpAnyH_take (i:=28) (v:=?va128x28) rfl (by kernel_rfl) (by kernel_rfl) (by kernel_rfl) (fun _ _ _ h=>h) (Or.inl ⟨by rfl,?ha128x28⟩) hHeld ?ra128x28
     case ha128x28=>intro w9 hSw;(try dsimp only at hSw);first | (go_simp;done) | (go_simp;with_reducible rfl)
     try simp only [Act.put,List.setIfInBounds_toArray,List.set_cons_zero,List.set_cons_succ,List.getElem_toArray,List.getElem_cons_zero,List.getElem_cons_succ]
     refine wpAnyH_take (i:=29) (v:=?va129x29) rfl (by kernel_rfl) (by kernel_rfl) (by kernel_rfl) (fun _ _ _ h=>h) (Or.inl ⟨by rfl,?ha129x29⟩) hHeld ?ra129x29
     case ha129x29=>intro w9 hSw;(try dsimp only at hSw);obtain ⟨v0,v1,v2,v3,v4,v5⟩:=V2.out.later (below_on B3.out hSw);obtain ⟨o0,o1,o2,o3,o4,o5⟩:=O2.out.later (below_on B3.out hSw);obtain ⟨m0,m1,m2,m3,m4,m5,m6,m7,m8⟩:=U2.out.later (below_on B3.out hSw);obtain ⟨l0,l1⟩:=L3.out.later hSw;first | (go_simp;done) | (go_simp;with_reducible rfl)
     try simp only [Act.put,List.setIfInBounds_toArray,List.set_cons_zero,List.set_cons_succ,List.getElem_toArray,List.getElem_cons_zero,List.getElem_cons_succ]
     refine wpAnyH_take (i:=30) (v:=?va130x30) rfl (by kernel_rfl) (by kernel_rfl) (by kernel_rfl) (fun _ _ _ h=>h) (Or.inl ⟨by rfl,?ha130x30⟩) hHeld ?ra130x30
     case ha130x30=>intro w9 hSw;(try dsimp only at hSw);first | (go_simp;done) | (go_simp;with_reducible rfl)
     try simp only [Act.put,List.setIfInBounds_toArray,List.set_cons_zero,List.set_cons_succ,List.getElem_toArray,List.getElem_cons_zero,List.getElem_cons_succ]
     refine wpAnyH_take (i:=31) (v:=?va131x31) rfl (by kernel_rfl) (by kernel_rfl) (by kernel_rfl) (fun _ _ _ h=>h) (Or.inl ⟨by rfl,?ha131x31⟩) hHeld ?ra131x31
     case ha131x31=>intro w9 hSw;(try dsimp only at hSw);first | (go_simp;done) | (go_simp;with_reducible rfl)
     try simp only [Act.put,List.setIfInBounds_toArray,List.set_cons_zero,List.set_cons_succ,List.getElem_toArray,List.getElem_cons_zero,List.getElem_cons_succ]
     refine wpAnyH_take (i:=32) (v:=undef) rfl (by kernel_rfl) (by kernel_rfl) (by kernel_rfl) (fun _ _ _ h=>h) (Or.inr ⟨by rfl,rfl⟩) hHeld ?_
     try simp only [Act.put,List.setIfInBounds_toArray,List.set_cons_zero,List.set_cons_succ,List.getElem_toArray,List.getElem_cons_zero,List.getElem_cons_succ]
     refine wpAnyH_take (i:=33) (v:=undef) rfl (by kernel_rfl) (by kernel_rfl) (by kernel_rfl) (fun _ _ _ h=>h) (Or.inr ⟨by rfl,rfl⟩) hHeld ?_
     try simp only [Act.put,List.setIfInBounds_toArray,List.set_cons_zero,List.set_cons_succ,List.getElem_toArray,List.getElem_cons_zero,List.getElem_cons_succ]
     refine wpAnyH_take (i:=34) (v:=undef) rfl (by kernel_rfl) (by kernel_rfl) (by kernel_rfl) (fun _ _ _ h=>h) (Or.inr ⟨by rfl,rfl⟩) hHeld ?_
     try simp only [Act.put,List.setIfInBounds_toArray,List.set_cons_zero,List.set_cons_succ,List.getElem_toArray,List.getElem_cons_zero,List.getElem_cons_succ]
     refine wpAnyH_take (i:=35) (v:=?va132x35) rfl (by kernel_rfl) (by kernel_rfl) (by kernel_rfl) (fun _ _ _ h=>h) (Or.inl ⟨by rfl,?ha132x35⟩) hHeld ?ra132x35
     case ha132x35=>intro w9 hSw;(try dsimp only at hSw);first | (go_simp;done) | (go_simp;with_reducible rfl)
     try simp only [Act.put,List.setIfInBounds_toArray,List.set_cons_zero,List.set_cons_succ,List.getElem_toArray,List.getElem_cons_zero,List.getElem_cons_succ]
     refine wpAnyH_take (i:=36) (v:=?va133x36) rfl (by kernel_rfl) (by kernel_rfl) (by kernel_rfl) (fun _ _ _ h=>h) (Or.inl ⟨by rfl,?ha133x36⟩) hHeld ?ra133x36
     case ha133x36=>intro w9 hSw;(try dsimp only at hSw);first | (go_simp;done) | (go_simp;with_reducible rfl)
     try simp only [Act.put,List.setIfInBounds_toArray,List.set_cons_zero,List.set_cons_succ,List.getElem_toArray,List.getElem_cons_zero,List.getElem_cons_succ]
     refine wpAnyH_take (i:=37) (v:=?va134x37) rfl (by kernel_rfl) (by kernel_rfl) (by kernel_rfl) (fun _ _ _ h=>h) (Or.inl ⟨by rfl,?ha134x37⟩) hHeld ?ra134x37
     case ha134x37=>intro w9 hSw;(try dsimp only at hSw);first | (go_simp;done) | (go_simp;with_reducible rfl)
     try simp only [Act.put,List.setIfInBounds_toArray,List.set_cons_zero,List.set_cons_succ,List.getElem_toArray,List.getElem_cons_zero,List.getElem_cons_succ]
     refine wpAnyH_take (i:=38) (v:=?va135x38) rfl (by kernel_rfl) (by kernel_rfl) (by kernel_rfl) (fun _ _ _ h=>h) (Or.inl ⟨by rfl,?ha135x38⟩) hHeld ?ra135x38
     case ha135x38=>intro w9 hSw;(try dsimp only at hSw);obtain ⟨v0,v1,v2,v3,v4,v5⟩:=V2.out.later (below_on B3.out hSw);obtain ⟨o0,o1,o2,o3,o4,o5⟩:=O2.out.later (below_on B3.out hSw);obtain ⟨m0,m1,m2,m3,m4,m5,m6,m7,m8⟩:=U2.out.later (below_on B3.out hSw);obtain ⟨l0,l1⟩:=L3.out.later hSw;first | (go_simp;done) | (go_simp;with_reducible rfl)
     try simp only [Act.put,List.setIfInBounds_toArray,List.set_cons_zero,List.set_cons_succ,List.getElem_toArray,List.getElem_cons_zero,List.getElem_cons_succ]
     refine wpAnyH_take (i:=39) (v:=?va136x39) rfl (by kernel_rfl) (by kernel_rfl) (by kernel_rfl) (fun _ _ _ h=>h) (Or.inl ⟨by rfl,?ha136x39⟩) hHeld ?ra136x39
     case ha136x39=>intro w9 hSw;(try dsimp only at hSw);obtain ⟨v0,v1,v2,v3,v4,v5⟩:=V2.out.later (below_on B3.out hSw);obtain ⟨o0,o1,o2,o3,o4,o5⟩:=O2.out.later (below_on B3.out hSw);obtain ⟨m0,m1,m2,m3,m4,m5,m6,m7,m8⟩:=U2.out.later (below_on B3.out hSw);obtain ⟨l0,l1⟩:=L3.out.later hSw;first | (go_simp;done) | (go_simp;with_reducible rfl)
     try simp only [Act.put,List.setIfInBounds_toArray,List.set_cons_zero,List.set_cons_succ,List.getElem_toArray,List.getElem_cons_zero,List.getElem_cons_succ]
     refine wpAnyH_ready (rs:=[40]) (by kernel_rfl) (by simp) (AllReadyH.cons rfl (fun K9 hK=>?_) AllReadyH.nil)
     go_simp
     go_at_call 12
     refine (KE.out _ HY4.out).mono ?_
     rintro e Y5 ⟨rfl,hb9⟩
     have HY5:=hide (below_on HY4.out hb9)
     clear hb9 hHeld
     refine hK.out _ _ HY5.out (fun hHeld=>?_)
     clear hK K9
     try simp only [Act.put,List.setIfInBounds_toArray,List.set_cons_zero,List.set_cons_succ,List.getElem_toArray,List.getElem_cons_zero,List.getElem_cons_succ]
     refine wpAnyH_take (i:=41) (v:=?va137x41) rfl (by kernel_rfl) (by kernel_rfl) (by kernel_rfl) (fun _ _ _ h=>h) (Or.inl ⟨by rfl,?ha137x41⟩) hHeld ?ra137x41
     case ha137x41=>intro w9 hSw;(try dsimp only at hSw);first | (go_simp;done) | (go_simp;with_reducible rfl)
     try simp only [Act.put,List.setIfInBounds_toArray,List.set_cons_zero,List.set_cons_succ,List.getElem_toArray,List.getElem_cons_zero,List.getElem_cons_succ]
     refine wpAnyH_take (i:=42) (v:=?va138x42) rfl (by kernel_rfl) (by kernel_rfl) (by kernel_rfl) (fun _ _ _ h=>h) (Or.inl ⟨by rfl,?ha138x42⟩) hHeld ?ra138x42
     case ha138x42=>intro w9 hSw;(try dsimp only at hSw);first | (go_simp;done) | (go_simp;with_reducible rfl)
     try simp only [Act.put,List.setIfInBounds_toArray,List.set_cons_zero,List.set_cons_succ,List.getElem_toArray,List.getElem_cons_zero,List.getElem_cons_succ]
     refine wpAnyH_take (i:=43) (v:=?va139x43) rfl (by kernel_rfl) (by kernel_rfl) (by kernel_rfl) (fun _ _ _ h=>h) (Or.inl ⟨by rfl,?ha139x43⟩) hHeld ?ra139x43
     case ha139x43=>intro w9 hSw;(try dsimp only at hSw);first | (go_simp;done) | (go_simp;with_reducible rfl)
     try simp only [Act.put,List.setIfInBounds_toArray,List.set_cons_zero,List.set_cons_succ,List.getElem_toArray,List.getElem_cons_zero,List.getElem_cons_succ]
     refine wpAnyH_take (i:=44) (v:=?va140x44) rfl (by kernel_rfl) (by kernel_rfl) (by kernel_rfl) (fun _ _ _ h=>h) (Or.inl ⟨by rfl,?ha140x44⟩) hHeld ?ra140x44
     case ha140x44=>intro w9 hSw;(try dsimp only at hSw);obtain ⟨v0,v1,v2,v3,v4,v5⟩:=V2.out.later (below_on B3.out hSw);obtain ⟨o0,o1,o2,o3,o4,o5⟩:=O2.out.later (below_on B3.out hSw);obtain ⟨m0,m1,m2,m3,m4,m5,m6,m7,m8⟩:=U2.out.later (below_on B3.out hSw);obtain ⟨l0,l1⟩:=L3.out.later hSw;first | (go_simp;done) | (go_simp;with_reducible rfl)
     try simp only [Act.put,List.setIfInBounds_toArray,List.set_cons_zero,List.set_cons_succ,List.getElem_toArray,List.getElem_cons_zero,List.getElem_cons_succ]
     refine wpAnyH_take (i:=45) (v:=?va141x45) rfl (by kernel_rfl) (by kernel_rfl) (by kernel_rfl) (fun _ _ _ h=>h) (Or.inl ⟨by rfl,?ha141x45⟩) hHeld ?ra141x45
     case ha141x45=>intro w9 hSw;(try dsimp only at hSw);first | (go_simp;done) | (go_simp;with_reducible rfl)
     try simp only [Act.put,List.setIfInBounds_toArray,List.set_cons_zero,List.set_cons_succ,List.getElem_toArray,List.getElem_cons_zero,List.getElem_cons_succ]
     refine wpAnyH_take (i:=46) (v:=?va142x46) rfl (by kernel_rfl) (by kernel_rfl) (by kernel_rfl) (fun _ _ _ h=>h) (Or.inl ⟨by rfl,?ha142x46⟩) hHeld ?ra142x46
     case ha142x46=>intro w9 hSw;(try dsimp only at hSw);obtain ⟨v0,v1,v2,v3,v4,v5⟩:=V2.out.later (below_on B3.out hSw);obtain ⟨o0,o1,o2,o3,o4,o5⟩:=O2.out.later (below_on B3.out hSw);obtain ⟨m0,m1,m2,m3,m4,m5,m6,m7,m8⟩:=U2.out.later (below_on B3.out hSw);obtain ⟨l0,l1⟩:=L3.out.later hSw;first | (go_simp;done) | (go_simp;with_reducible rfl)
     try simp only [Act.put,List.setIfInBounds_toArray,List.set_cons_zero,List.set_cons_succ,List.getElem_toArray,List.getElem_cons_zero,List.getElem_cons_succ]
     refine wpAnyH_ready (rs:=[47]) (by kernel_rfl) (by simp) (AllReadyH.cons rfl (fun K9 hK=>?_) AllReadyH.nil)
     go_simp
     go_at_call 13
     refine (KK.out _ HY5.out).mono ?_
     rintro e Y6 ⟨rfl,hb9⟩
     have HY6:=hide (below_on HY5.out hb9)
     clear hb9 hHeld
     refine hK.out _ _ HY6.out (fun hHeld=>?_)
     clear hK K9
     try simp only [Act.put,List.setIfInBounds_toArray,List.set_cons_zero,List.set_cons_succ,List.getElem_toArray,List.getElem_cons_zero,List.getElem_cons_succ]
     refine wpAnyH_take (i:=48) (v:=?va143x48) rfl (by kernel_rfl) (by kernel_rfl) (by kernel_rfl) (fun _ _ _ h=>h) (Or.inl ⟨by rfl,?ha143x48⟩) hHeld ?ra143x48
     case ha143x48=>intro w9 hSw;(try dsimp only at hSw);first | (go_simp;done) | (go_simp;with_reducible rfl)
     try simp only [Act.put,List.setIfInBounds_toArray,List.set_cons_zero,List.set_cons_succ,List.getElem_toArray,List.getElem_cons_zero,List.getElem_cons_succ]
     refine wpAnyH_take (i:=49) (v:=?va144x49) rfl (by kernel_rfl) (by kernel_rfl) (by kernel_rfl) (fun _ _ _ h=>h) (Or.inl ⟨by rfl,?ha144x49⟩) hHeld ?ra144x49
     case ha144x49=>intro w9 hSw;(try dsimp only at hSw);first | (go_simp;done) | (go_simp;with_reducible rfl)
     try simp only [Act.put,List.setIfInBounds_toArray,List.set_cons_zero,List.set_cons_succ,List.getElem_toArray,List.getElem_cons_zero,List.getElem_cons_succ]
     refine wpAnyH_take (i:=50) (v:=?va145x50) rfl (by kernel_rfl) (by kernel_rfl) (by kernel_rfl) (fun _ _ _ h=>h) (Or.inl ⟨by rfl,?ha145x50⟩) hHeld ?ra145x50
     case ha145x50=>intro w9 hSw;(try dsimp only at hSw);first | (go_simp;done) | (go_simp;with_reducible rfl)
     try simp only [Act.put,List.setIfInBounds_toArray,List.set_cons_zero,List.set_cons_succ,List.getElem_toArray,List.getElem_cons_zero,List.getElem_cons_succ]
     refine wpAnyH_take (i:=51) (v:=?va146x51) rfl (by kernel_rfl) (by kernel_rfl) (by kernel_rfl) (fun _ _ _ h=>h) (Or.inl ⟨by rfl,?ha146x51⟩) hHeld ?ra146x51
     case ha146x51=>intro w9 hSw;(try dsimp only at hSw);obtain ⟨v0,v1,v2,v3,v4,v5⟩:=V2.out.later (below_on B3.out hSw);obtain ⟨o0,o1,o2,o3,o4,o5⟩:=O2.out.later (below_on B3.out hSw);obtain ⟨m0,m1,m2,m3,m4,m5,m6,m7,m8⟩:=U2.out.later (below_on B3.out hSw);obtain ⟨l0,l1⟩:=L3.out.later hSw;first | (go_simp;done) | (go_simp;with_reducible rfl)
     try simp only [Act.put,List.setIfInBounds_toArray,List.set_cons_zero,List.set_cons_succ,List.getElem_toArray,List.getElem_cons_zero,List.getElem_cons_succ]
     refine wpAnyH_take (i:=52) (v:=?va147x52) rfl (by kernel_rfl) (by kernel_rfl) (by kernel_rfl) (fun _ _ _ h=>h) (Or.inl ⟨by rfl,?ha147x52⟩) hHeld ?ra147x52
     case ha147x52=>intro w9 hSw;(try dsimp only at hSw);first | (go_simp;done) | (go_simp;with_reducible rfl)
     try simp only [Act.put,List.setIfInBounds_toArray,List.set_cons_zero,List.set_cons_succ,List.getElem_toArray,List.getElem_cons_zero,List.getElem_cons_succ]
     refine wpAnyH_take (i:=53) (v:=?va148x53) rfl (by kernel_rfl) (by kernel_rfl) (by kernel_rfl) (fun _ _ _ h=>h) (Or.inl ⟨by rfl,?ha148x53⟩) hHeld ?ra148x53
     case ha148x53=>intro w9 hSw;(try dsimp only at hSw);first | (go_simp;done) | (go_simp;with_reducible rfl)
     try simp only [Act.put,List.setIfInBounds_toArray,List.set_cons_zero,List.set_cons_succ,List.getElem_toArray,List.getElem_cons_zero,List.getElem_cons_succ]
     refine wpAnyH_take (i:=54) (v:=?va149x54) rfl (by kernel_rfl) (by kernel_rfl) (by kernel_rfl) (fun _ _ _ h=>h) (Or.inl ⟨by rfl,?ha149x54⟩) hHeld ?ra149x54
     case ha149x54=>intro w9 hSw;(try dsimp only at hSw);first | (go_simp;done) | (go_simp;with_reducible rfl)
     try simp only [Act.put,List.setIfInBounds_toArray,List.set_cons_zero,List.set_cons_succ,List.getElem_toArray,List.getElem_cons_zero,List.getElem_cons_succ]
     refine wpAnyH_take (i:=55) (v:=?va150x55) rfl (by kernel_rfl) (by kernel_rfl) (by kernel_rfl) (fun _ _ _ h=>h) (Or.inl ⟨by rfl,?ha150x55⟩) hHeld ?ra150x55
     case ha150x55=>intro w9 hSw;(try dsimp only at hSw);first | (go_simp;done) | (go_simp;with_reducible rfl)
     try simp only [Act.put,List.setIfInBounds_toArray,List.set_cons_zero,List.set_cons_succ,List.getElem_toArray,List.getElem_cons_zero,List.getElem_cons_succ]
     refine wpAnyH_take (i:=56) (v:=?va151x56) rfl (by kernel_rfl) (by kernel_rfl) (by kernel_rfl) (fun _ _ _ h=>h) (Or.inl ⟨by rfl,?ha151x56⟩) hHeld ?ra151x56
     case ha151x56=>intro w9 hSw;(try dsimp only at hSw);obtain ⟨v0,v1,v2,v3,v4,v5⟩:=V2.out.later (below_on B3.out hSw);obtain ⟨o0,o1,o2,o3,o4,o5⟩:=O2.out.later (below_on B3.out hSw);obtain ⟨m0,m1,m2,m3,m4,m5,m6,m7,m8⟩:=U2.out.later (below_on B3.out hSw);obtain ⟨l0,l1⟩:=L3.out.later hSw;first | (go_simp;done) | (go_simp;with_reducible rfl)
     try simp only [Act.put,List.setIfInBounds_toArray,List.set_cons_zero,List.set_cons_succ,List.getElem_toArray,List.getElem_cons_zero,List.getElem_cons_succ]
     refine wpAnyH_ready (rs:=[57]) (by kernel_rfl) (by simp) (AllReadyH.cons rfl (fun K9 hK=>?_) AllReadyH.nil)
     go_simp
     go_at_call 14
     refine (KH.out _ HY6.out).mono ?_
     rintro e Y7 ⟨rfl,rfl⟩
     refine hK.out _ _ hHeld (fun hHeld=>?_)
     clear hK K9
     try simp only [Act.put,List.setIfInBounds_toArray,List.set_cons_zero,List.set_cons_succ,List.getElem_toArray,List.getElem_cons_zero,List.getElem_cons_succ]
     refine wpAnyH_take (i:=58) (v:=?va152x58) rfl (by kernel_rfl) (by kernel_rfl) (by kernel_rfl) (fun _ _ _ h=>h) (Or.inl ⟨by rfl,?ha152x58⟩) hHeld ?ra152x58
     case ha152x58=>intro w9 hSw;(try dsimp only at hSw);first | (go_simp;done) | (go_simp;with_reducible rfl)
     try simp only [Act.put,List.setIfInBounds_toArray,List.set_cons_zero,List.set_cons_succ,List.getElem_toArray,List.getElem_cons_zero,List.getElem_cons_succ]
     refine wpAnyH_take (i:=59) (v:=?va153x59) rfl (by kernel_rfl) (by kernel_rfl) (by kernel_rfl) (fun _ _ _ h=>h) (Or.inl ⟨by rfl,?ha153x59⟩) hHeld ?ra153x59
     case ha153x59=>intro w9 hSw;(try dsimp only at hSw);first | (go_simp;done) | (go_simp;with_reducible rfl)
     try simp only [Act.put,List.setIfInBounds_toArray,List.set_cons_zero,List.set_cons_succ,List.getElem_toArray,List.getElem_cons_zero,List.getElem_cons_succ]
     refine wpAnyH_done (by kernel_rfl) ?_ _
     go_wp2
     go_ret
     exact ⟨by simp,below_on B1.out (below_on B2.out (below_on B3.out HY6.out))⟩
 ·skip
  have hCb:(C !=0)=true:=by simpa using hC
  clear HL
  go_upto_region 6 with fail
  refine wp_region_held_drew (S:=fun w'=>Below W2.heap.size W2 w') (by kernel_rfl) (below_on (Below.refl _ _) (below_drewN W2 1)) (fun hHeld=>?_)
  refine forgetH (fun wx=>Below W2.heap.size W2 wx) hHeld ?_
  clear hHeld
  rintro Y0 hHeld
  clear v0 v1 v2 v3 v4 v5 o0 o1 o2 o3 o4 o5 m0 m1 m2 m3 m4 m5 m6 m7 m8
  refine wpAnyH_take (i:=0) (v:=?ve0x0) rfl (by kernel_rfl) (by kernel_rfl) (by kernel_rfl) (fun _ _ _ h=>h) (Or.inl ⟨by rfl,?he0x0⟩) hHeld ?re0x0
  case he0x0=>intro w9 hSw;(try dsimp only at hSw);obtain ⟨v0,v1,v2,v3,v4,v5⟩:=V2.out.later hSw;obtain ⟨o0,o1,o2,o3,o4,o5⟩:=O2.out.later hSw;obtain ⟨m0,m1,m2,m3,m4,m5,m6,m7,m8⟩:=U2.out.later hSw;first | (go_simp;done) | (go_simp;with_reducible rfl)
  try simp only [Act.put,List.setIfInBounds_toArray,List.set_cons_zero,List.set_cons_succ,List.getElem_toArray,List.getElem_cons_zero]
  refine wpAnyH_take (i:=1) (v:=?ve1x1) rfl (by kernel_rfl) (by kernel_rfl) (by kernel_rfl) (fun _ _ _ h=>h) (Or.inl ⟨by rfl,?he1x1⟩) hHeld ?re1x1
  case he1x1=>intro w9 hSw;(try dsimp only at hSw);obtain ⟨v0,v1,v2,v3,v4,v5⟩:=V2.out.later hSw;obtain ⟨o0,o1,o2,o3,o4,o5⟩:=O2.out.later hSw;obtain ⟨m0,m1,m2,m3,m4,m5,m6,m7,m8⟩:=U2.out.later hSw;first | (go_simp;done) | (go_simp;with_reducible rfl)
  try simp only [Act.put,List.setIfInBounds_toArray,List.set_cons_zero,List.set_cons_succ,List.getElem_toArray,List.getElem_cons_zero,List.getElem_cons_succ]
  refine wpAnyH_take (i:=4) (v:=?ve4x4) rfl (by kernel_rfl) (by kernel_rfl) (by kernel_rfl) (fun _ _ _ h=>h) (Or.inl ⟨by rfl,?he4x4⟩) hHeld ?re4x4
  case he4x4=>intro w9 hSw;(try dsimp only at hSw);obtain ⟨v0,v1,v2,v3,v4,v5⟩:=V2.out.later hSw;obtain ⟨o0,o1,o2,o3,o4,o5⟩:=O2.out.later hSw;obtain ⟨m0,m1,m2,m3,m4,m5,m6,m7,m8⟩:=U2.out.later hSw;first | (go_simp;done) | (go_simp;with_reducible rfl)
  try simp only [Act.put,List.setIfInBounds_toArray,List.set_cons_zero,List.set_cons_succ,List.getElem_toArray,List.getElem_cons_zero,List.getElem_cons_succ]
  refine wpAnyH_take (i:=5) (v:=?ve5x5) rfl (by kernel_rfl) (by kernel_rfl) (by kernel_rfl) (fun _ _ _ h=>h) (Or.inl ⟨by rfl,?he5x5⟩) hHeld ?re5x5
  case he5x5=>intro w9 hSw;(try dsimp only at hSw);obtain ⟨v0,v1,v2,v3,v4,v5⟩:=V2.out.later hSw;obtain ⟨o0,o1,o2,o3,o4,o5⟩:=O2.out.later hSw;obtain ⟨m0,m1,m2,m3,m4,m5,m6,m7,m8⟩:=U2.out.later hSw;first | (go_simp;done) | (go_simp;with_reducible rfl)
  try simp only [Act.put,List.setIfInBounds_toArray,List.set_cons_zero,List.set_cons_succ,List.getElem_toArray,List.getElem_cons_zero,List.getElem_cons_succ]
  have B2x:=hide (below_on B2.out hHeld)
  refine wpAnyH_ready (rs:=[2]) (by kernel_rfl) (by simp) (AllReadyH.cons rfl (fun K hK=>?_) AllReadyH.nil)
  go_simp
  go_at_call 8
  refine (KS.out _ B2x.out).mono ?_
  rintro e Y1 ⟨y9,z9,rfl,hb9,_⟩
  have HB9:=hide (below_on hHeld hb9)
  clear hb9 hHeld
  refine hK.out _ _ HB9.out (fun hHeld=>?_)
  clear hK K
  try simp only [Act.put,List.setIfInBounds_toArray,List.set_cons_zero,List.set_cons_succ,List.getElem_toArray,List.getElem_cons_zero,List.getElem_cons_succ]
  refine wpAnyH_take (i:=3) (v:=?ve3x3) rfl (by kernel_rfl) (by kernel_rfl) (by kernel_rfl) (fun _ _ _ h=>h) (Or.inl ⟨by rfl,?he3x3⟩) hHeld ?re3x3
  case he3x3=>intro w9 hSw;(try dsimp only at hSw);first | (go_simp;done) | (go_simp;with_reducible rfl) | (go_simp;rw [fO0];done) | (go_simp;rw [fO0];rfl)
  try simp only [Act.put,List.setIfInBounds_toArray,List.set_cons_zero,List.set_cons_succ,List.getElem_toArray,List.getElem_cons_zero,List.getElem_cons_succ]
  refine wpAnyH_take (i:=6) (v:=?ve6x6) rfl (by kernel_rfl) (by kernel_rfl) (by kernel_rfl) (fun _ _ _ h=>h) (Or.inl ⟨by rfl,?he6x6⟩) hHeld ?re6x6
  case he6x6=>intro w9 hSw;(try dsimp only at hSw);first | (go_simp;done) | (go_simp;with_reducible rfl)
  try simp only [Act.put,List.setIfInBounds_toArray,List.set_cons_zero,List.set_cons_succ,List.getElem_toArray,List.getElem_cons_zero,List.getElem_cons_succ]
  refine wpAnyH_take (i:=7) (v:=?ve7x7) rfl (by kernel_rfl) (by kernel_rfl) (by kernel_rfl) (fun _ _ _ h=>h) (Or.inl ⟨by rfl,?he7x7⟩) hHeld ?re7x7
  case he7x7=>intro w9 hSw;(try dsimp only at hSw);first | (go_simp;done) | (go_simp;with_reducible rfl)
  try simp only [Act.put,List.setIfInBounds_toArray,List.set_cons_zero,List.set_cons_succ,List.getElem_toArray,List.getElem_cons_zero,List.getElem_cons_succ]
  refine wpAnyH_done (by kernel_rfl) ?_ _
  go_wp2
  go_ret
  exact ⟨by simp,below_on B1.out (below_on B2.out HB9.out)⟩
end Go.Proofs.YtlliggfggadidaaGreatDoor
