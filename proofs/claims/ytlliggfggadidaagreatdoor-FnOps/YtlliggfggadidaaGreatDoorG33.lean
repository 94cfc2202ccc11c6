/- Do3 in one text: what each says stands at its head below. -/
import Derived.Test.YtlliggfggadidaaGreatDoorG32
import Derived.Test.YtlliggfggadidaaGreatDoorG18
namespace Go.Proofs.YtlliggfggadidaaGreatDoor
open Go.RowKit
theorem RdI_old {S:Nat→Prop} {w:World} {v:Value} {xs:List Int} (h:RdI S w v xs):RdI (fun b=>b<w.heap.size) w v xs:=by
 obtain ⟨ao,c,e1,e2,e3⟩:=h
 refine ⟨ao,c,e1,e2,fun hne=>?_⟩
 obtain ⟨b,off,f1,f2,f3⟩:=e3 hne
 exact ⟨b,off,f1,World.block_lt_of_cell? _ _ (f3 0 (List.length_pos_iff.2 hne)),f3⟩
theorem forgetX9 {F:Exit→Act→World→Prop} {e:Exit} {a:Act} {w0:World} (R:World→Prop) (h0:R w0) (h: ∀w,R w→F e a w):F e a w0:=h _ h0
theorem Tryz.asCh (v:Value) (xT:TypeId) (w:World):(Instr.typeAssert (.iface 93 v) xT 93 true).run Tryz.prog w=.ok (.tuple #[v,.bool true]) w:=by
 simp [Instr.typeAssert,run_underlying Tryz.underlying93]
theorem Tryz.asLk (v:Value) (xT:TypeId) (w:World):(Instr.typeAssert (.iface 95 v) xT 95 true).run Tryz.prog w=.ok (.tuple #[v,.bool true]) w:=by
 simp [Instr.typeAssert,run_underlying Tryz.underlying95]
theorem Tryz.asLc (v:Value) (xT:TypeId) (w:World):(Instr.typeAssert (.iface 95 v) xT 93 true).run Tryz.prog w=.ok (.tuple #[.nilFunc,.bool false]) w:=by
 obtain ⟨i,hi,hz⟩: ∃i,Tryz.prog.info? 93=some i∧i.zero=some .nilFunc:=by
  have h:(Tryz.prog.info? 93).map (·.zero)=some (some .nilFunc):=by kernel_rfl
  cases hq:Tryz.prog.info? 93 with
  | none=>rw [hq] at h;cases h
  | some i=>rw [hq] at h;exact ⟨i,rfl,by simpa using h⟩
 simp [Instr.typeAssert,run_underlying Tryz.underlying93,zeroValue,typeInfo,hi,hz]
set_option linter.unusedSimpArgs false in
set_option maxHeartbeats 16000000 in
set_option maxRecDepth 4000 in
theorem doneByI {S T S' T':Nat→Prop} {w:World} {y z u v:Value} (r o:Rf) (h0:totR r≤1048576) (h1:opF o=0) (hg:Gl w) (hy:RdI S w y r.sn) (hz:RdJ T w z r.lg) (hcp:capE z) (hu:RdI S' w u o.sn) (hv:RdJ T' w v o.lg) (hcv:capE v):
  Calls Tryz.prog 24 #[.agg #[.int .i64 r.tm,.int .i64 r.vt,.int .i64 r.si,.int .i64 r.st,y,z],.agg #[.int .i64 o.tm,.int .i64 o.vt,.int .i64 o.si,.int .i64 o.st,u,v]] w (EndsO8 0 (dyC r o) (dyV r o) (dyR r o).tm (dyR r o).vt (dyR r o).si (dyR r o).st (dyR r o).sn (dyR r o).lg w):=by
 obtain ⟨ay,cy,rfl⟩:=hy.shape
 obtain ⟨az,cz,rfl,_⟩:=hz.shape
 obtain ⟨au,cu,rfl⟩:=hu.shape
 obtain ⟨av,cv,rfl,_⟩:=hv.shape
 have HRo:=hide (room_tot h0)
 have HY:=hide hy
 have HZ:=hide hz
 have hkd:=op_kind h1
 rcases hkd with h | h | h | h | h
 ·skip
  obtain ⟨e1,e2,e3⟩:=dy1 (r:=r) h
  have HD:=hide (fun (w':World) (hb:Below w.heap.size w w')=>deed1 r o (hg.later hb) (hy.later hb) (hz.later hb) hcp (hu.later hb) (hv.later hb) hcv)
  rw [e1,e2,e3]
  clear e1 e2 e3
  have HN:=hide (room_tot (shR_tot r o.si o.st))
  obtain ⟨C,hC⟩: ∃C,shC r o.si o.st=C:=⟨_,rfl⟩
  obtain ⟨N,hN⟩: ∃N,shR r o.si o.st=N:=⟨_,rfl⟩
  rw [hC,hN] at HD
  rw [hC,hN]
  rw [hN] at HN
  clear hC hN hy hz hu hv hcp hcv hg h0 h1
  by_cases hC0:C=0
  ·subst hC0
   simp only [if_true]
   generalize r.sn.length=l at*
   generalize r.lg.length=m at*
   generalize o.sn.length=l2 at*
   generalize o.lg.length=m2 at*
   generalize r.tm=a at*
   generalize r.vt=b at*
   generalize r.si=c at*
   generalize r.st=d at*
   generalize o.tm=a2 at*
   generalize o.vt=b2 at*
   generalize o.si=c2 at*
   generalize o.st=d2 at*
   subst h
   have BA0:=below_on (below_on (below_alloc w (.cells #[.int .i64 a,.int .i64 b,.int .i64 c,.int .i64 d,.slice ay l cy,.slice az m cz] 27)) (below_alloc _ (.cells #[.int .i64 1,.int .i64 b2,.int .i64 c2,.int .i64 d2,.slice au l2 cu,.slice av m2 cv] 29))) (below_alloc _ (.cells #[.int .i64 0,.int .i64 0,.int .i64 0,.int .i64 0,.int .i64 0,.int .i64 0,.int .i64 0,.slice none 0 0,.slice none 0 0] 33))
   have VR0:=((Var6_new w (.int .i64 a) (.int .i64 b) (.int .i64 c) (.int .i64 d) (.slice ay l cy) (.slice az m cz) 27).later (below_alloc _ (.cells #[.int .i64 1,.int .i64 b2,.int .i64 c2,.int .i64 d2,.slice au l2 cu,.slice av m2 cv] 29))).later (below_alloc _ (.cells #[.int .i64 0,.int .i64 0,.int .i64 0,.int .i64 0,.int .i64 0,.int .i64 0,.int .i64 0,.slice none 0 0,.slice none 0 0] 33))
   have VO0:=(Var6_new (w.alloc (.cells #[.int .i64 a,.int .i64 b,.int .i64 c,.int .i64 d,.slice ay l cy,.slice az m cz] 27)) (.int .i64 1) (.int .i64 b2) (.int .i64 c2) (.int .i64 d2) (.slice au l2 cu) (.slice av m2 cv) 29).later (below_alloc _ (.cells #[.int .i64 0,.int .i64 0,.int .i64 0,.int .i64 0,.int .i64 0,.int .i64 0,.int .i64 0,.slice none 0 0,.slice none 0 0] 33))
   rw [World.size_alloc] at VO0
   have RA0:=Res9.new (below_on (below_alloc w (.cells #[.int .i64 a,.int .i64 b,.int .i64 c,.int .i64 d,.slice ay l cy,.slice az m cz] 27)) (below_alloc _ (.cells #[.int .i64 1,.int .i64 b2,.int .i64 c2,.int .i64 d2,.slice au l2 cu,.slice av m2 cv] 29))) 33
   rw [World.size_alloc,World.size_alloc] at RA0
   obtain ⟨W3,hW3⟩: ∃x,(((w.alloc (.cells #[.int .i64 a,.int .i64 b,.int .i64 c,.int .i64 d,.slice ay l cy,.slice az m cz] 27)).alloc (.cells #[.int .i64 1,.int .i64 b2,.int .i64 c2,.int .i64 d2,.slice au l2 cu,.slice av m2 cv] 29)).alloc (.cells #[.int .i64 0,.int .i64 0,.int .i64 0,.int .i64 0,.int .i64 0,.int .i64 0,.int .i64 0,.slice none 0 0,.slice none 0 0] 33))=x:=⟨_,rfl⟩
   have hs3:W3.heap.size=w.heap.size+3:=by rw [← hW3];simp
   rw [hW3] at BA0 VR0 VO0 RA0
   have BA3:=hide BA0
   have VA3:=hide VR0
   have OA3:=hide VO0
   have RA3:=hide RA0
   clear BA0 VR0 VO0 RA0
   go_enter Tryz.func24,Tryz.ntmps24
   go_upto_region 1 with fail
   (try rw [hW3])
   clear hW3
   obtain ⟨v0,v1,v2,v3,v4,v5⟩:=VA3.out
   skip
   go_upto_region 2 with fail
   have hbd:=below_alloc W3 (.cells #[.int .i64 0,.int .i64 0,.int .i64 0,.int .i64 a,.int .i64 b,.int .i64 c,.int .i64 d,.slice ay l cy,.slice az m cz] 33)
   have BA:=hide (below_on BA3.out hbd)
   have VA:=hide (VA3.out.later hbd)
   have OA:=hide (OA3.out.later hbd)
   have RA:=hide (RA3.out.later hbd)
   have DA0:=Var9_new W3 (.int .i64 0) (.int .i64 0) (.int .i64 0) (.int .i64 a) (.int .i64 b) (.int .i64 c) (.int .i64 d) (.slice ay l cy) (.slice az m cz) 33
   rw [hs3] at DA0
   have DA:=hide DA0
   have DFA0: ∀o,(W3.alloc (.cells #[.int .i64 0,.int .i64 0,.int .i64 0,.int .i64 a,.int .i64 b,.int .i64 c,.int .i64 d,.slice ay l cy,.slice az m cz] 33)).frozen? ⟨w.heap.size+3,o,none⟩=false:=fun q=>by rw [← hs3];simp [go_sem]
   have DFA:=hide DFA0
   obtain ⟨W,hW⟩: ∃x,W3.alloc (.cells #[.int .i64 0,.int .i64 0,.int .i64 0,.int .i64 a,.int .i64 b,.int .i64 c,.int .i64 d,.slice ay l cy,.slice az m cz] 33)=x:=⟨_,rfl⟩
   have hsW:W.heap.size=w.heap.size+4:=by rw [← hW];simp [hs3]
   rw [hW] at BA VA OA RA DA DFA
   (try rw [hW])
   (try simp only [hs3])
   clear hbd DA0 DFA0 hW BA3 VA3 OA3 RA3 hs3 v0 v1 v2 v3 v4 v5
   obtain ⟨p0,p1,p2,p3,p4,p5⟩:=OA.out
   have HT:=hide (table1 W)
   go_wp2_with fail
   refine HT.out.mono ?_
   rintro e w1 ⟨rfl,hb⟩
   have BB:=hide (below_on BA.out hb)
   have VB:=hide (VA.out.later hb)
   have OB:=hide (OA.out.later hb)
   have RB:=hide (RA.out.later hb)
   have DB:=hide (DA.out.later hb)
   have DFB:Hid (∀o,w1.frozen? ⟨w.heap.size+3,o,none⟩=false):=fun o=>((bcell hb).2 _ _ DA.out.lt).trans (DFA.out o)
   have hz1:=hb.size
   clear hb p0 p1 p2 p3 p4 p5 VA OA RA DA DFA BA HT
   obtain ⟨v0,v1,v2,v3,v4,v5⟩:=VB.out
   obtain ⟨p0,p1,p2,p3,p4,p5⟩:=OB.out
   have HE:=hide (HD.out _ BB.out)
   have asC:=Tryz.asCh
   go_wp2_with fail
   clear asC
   refine HE.out.mono ?_
   rintro e w2 ⟨y1,z1,rfl,hb,ho⟩
   obtain ⟨a1,k1,g1,j1,rfl,rfl⟩:=ho.shape
   have hbn:=below_on hb (below_alloc w2 (.cells #[.int .i64 0,.int .i64 N.tm,.int .i64 N.vt,.int .i64 N.si,.int .i64 N.st,.slice a1 N.sn.length k1,.slice g1 N.lg.length j1] 79))
   have BC:=hide (below_on BB.out hbn)
   have RC:=hide (RB.out.later hbn)
   have DC:=hide (DB.out.later hbn)
   have DF:Hid (∀o,(w2.alloc (.cells #[.int .i64 0,.int .i64 N.tm,.int .i64 N.vt,.int .i64 N.si,.int .i64 N.st,.slice a1 N.sn.length k1,.slice g1 N.lg.length j1] 79)).frozen? ⟨w.heap.size+3,o,none⟩=false):=fun o=>((bcell hbn).2 _ _ DB.out.lt).trans (DFB.out o)
   have NC:=hide (Var7_new w2 (.int .i64 0) (.int .i64 N.tm) (.int .i64 N.vt) (.int .i64 N.si) (.int .i64 N.st) (.slice a1 N.sn.length k1) (.slice g1 N.lg.length j1) 79)
   have hz2:=hb.size
   have IC:=hide (ho.later (below_alloc w2 (.cells #[.int .i64 0,.int .i64 N.tm,.int .i64 N.vt,.int .i64 N.si,.int .i64 N.st,.slice a1 N.sn.length k1,.slice g1 N.lg.length j1] 79)))
   clear ho
   clear hb v0 v1 v2 v3 v4 v5 p0 p1 p2 p3 p4 p5 VB OB RB DB DFB BB HE HD
   go_upto_region 6 with fail
   obtain ⟨X,hX⟩: ∃x,w2.alloc (.cells #[.int .i64 0,.int .i64 N.tm,.int .i64 N.vt,.int .i64 N.si,.int .i64 N.st,.slice a1 N.sn.length k1,.slice g1 N.lg.length j1] 79)=x:=⟨_,rfl⟩
   rw [hX] at BC RC DC DF NC IC
   (try rw [hX])
   clear hbn hX
   obtain ⟨d0,d1,d2,d3,d4,d5,d6,d7,d8⟩:=DC.out
   obtain ⟨n0,n1,n2,n3,n4,n5,n6⟩:=NC.out
   have e0:=DF.out 0
   have e1:=DF.out 1
   have e2:=DF.out 2
   have e3:=DF.out 3
   have e4:=DF.out 4
   have e5:=DF.out 5
   have e6:=DF.out 6
   have e7:=DF.out 7
   have e8:=DF.out 8
   go_upto_region 13 with fail
   refine forget (fun W5=>Var9 W5 (w.heap.size+3) (.int .i64 0) (.int .i64 0) (.int .i64 0) (.int .i64 N.tm) (.int .i64 N.vt) (.int .i64 N.si) (.int .i64 N.st) (.slice a1 N.sn.length k1) (.slice g1 N.lg.length j1)∧(∀o,W5.frozen? ⟨w.heap.size+3,o,none⟩=false)∧Res9 w W5 (w.heap.size+2)∧(∃S,RdI S W5 (.slice a1 N.sn.length k1) N.sn)∧(∃S,RdJ S W5 (.slice g1 N.lg.length j1) N.lg)) ?sa1y ?_
   case sa1y=>
    have hw5:Wr (fun x=>x=w.heap.size+3) X (((((((X.setCell ⟨w.heap.size+3,1,none⟩ (.int .i64 0)).setCell ⟨w.heap.size+3,3,none⟩ (.int .i64 N.tm)).setCell ⟨w.heap.size+3,4,none⟩ (.int .i64 N.vt)).setCell ⟨w.heap.size+3,5,none⟩ (.int .i64 N.si)).setCell ⟨w.heap.size+3,6,none⟩ (.int .i64 N.st)).setCell ⟨w.heap.size+3,7,none⟩ (.slice a1 N.sn.length k1)).setCell ⟨w.heap.size+3,8,none⟩ (.slice g1 N.lg.length j1)):=(Wr.setCell (p:=⟨w.heap.size+3,8,none⟩) (Wr.setCell (p:=⟨w.heap.size+3,7,none⟩) (Wr.setCell (p:=⟨w.heap.size+3,6,none⟩) (Wr.setCell (p:=⟨w.heap.size+3,5,none⟩) (Wr.setCell (p:=⟨w.heap.size+3,4,none⟩) (Wr.setCell (p:=⟨w.heap.size+3,3,none⟩) (Wr.setCell (p:=⟨w.heap.size+3,1,none⟩) (Wr.refl (fun x=>x=w.heap.size+3) _) rfl (.int .i64 0)) rfl (.int .i64 N.tm)) rfl (.int .i64 N.vt)) rfl (.int .i64 N.si)) rfl (.int .i64 N.st)) rfl (.slice a1 N.sn.length k1)) rfl (.slice g1 N.lg.length j1))
    refine ⟨⟨by simp [go_sem,d0],by simp [go_sem,d1],by simp [go_sem,d2],by simp [go_sem,d3],by simp [go_sem,d4],by simp [go_sem,d5],by simp [go_sem,d6],by simp [go_sem,d7],by simp [go_sem,d8]⟩,fun o=>?_,RC.out.wr hw5 (by omega) (fun b hb=>by omega),⟨_,IC.out.rdI.wr hw5 (fun _ b hb e=>by have:=hb.1;omega)⟩,⟨_,IC.out.rdJ.wr hw5 (fun b hb e=>by have:=hb.1;omega)⟩⟩
    simp only [World.frozen?_setCell]
    exact DF.out o
   clear d0 d1 d2 d3 d4 d5 d6 d7 d8 n0 n1 n2 n3 n4 n5 n6 e0 e1 e2 e3 e4 e5 e6 e7 e8 DC NC RC DF BC
   rintro W5 ⟨N9,F9,R9,⟨_,hyd⟩,⟨_,hzd⟩⟩
   have HCp:=hide (copyRaftI (N.tm) (N.vt) (N.si) (N.st) hyd hzd HN.out.1 HN.out.2.1 HN.out.2.2)
   obtain ⟨d0,d1,d2,d3,d4,d5,d6,d7,d8⟩:=id N9
   have hw5l:w.heap.size+3<W5.heap.size:=N9.lt
   go_wp2_with fail
   refine HCp.out.mono ?_
   rintro e w7 ⟨y7,z7,rfl,hb,ho⟩
   obtain ⟨a7,k7,g7,j7,hy7,hz7⟩:=ho.shape
   subst hy7
   subst hz7
   have D7:=hide (N9.later hb)
   have DF:Hid (∀o,w7.frozen? ⟨w.heap.size+3,o,none⟩=false):=fun o=>((bcell hb).2 _ _ N9.lt).trans (F9 o)
   have R7:=hide (R9.later hb)
   have HO7:=hide ho
   clear hb ho HCp N9 F9 R9 hyd hzd d0 d1 d2 d3 d4 d5 d6 d7 d8
   obtain ⟨d0,d1,d2,d3,d4,d5,d6,d7,d8⟩:=D7.out
   have e3:=DF.out 3
   have e4:=DF.out 4
   have e5:=DF.out 5
   have e6:=DF.out 6
   have e7:=DF.out 7
   have e8:=DF.out 8
   go_upto_region 14 with fail
   refine forget (fun W5=>Var9 W5 (w.heap.size+3) (.int .i64 0) (.int .i64 0) (.int .i64 0) (.int .i64 N.tm) (.int .i64 N.vt) (.int .i64 N.si) (.int .i64 N.st) (.slice a7 (N.sn).length k7) (.slice g7 (N.lg).length j7)∧(∀o,W5.frozen? ⟨w.heap.size+3,o,none⟩=false)∧Res9 w W5 (w.heap.size+2)∧(∃lo,w.heap.size+3<lo∧IvR lo W5.heap.size W5 (.slice a7 (N.sn).length k7) (.slice g7 (N.lg).length j7) (N.sn) (N.lg))) ?sb1y ?_
   case sb1y=>
    have hw5:Wr (fun x=>x=w.heap.size+3) w7 ((((((w7.setCell ⟨w.heap.size+3,3,none⟩ (.int .i64 N.tm)).setCell ⟨w.heap.size+3,4,none⟩ (.int .i64 N.vt)).setCell ⟨w.heap.size+3,5,none⟩ (.int .i64 N.si)).setCell ⟨w.heap.size+3,6,none⟩ (.int .i64 N.st)).setCell ⟨w.heap.size+3,7,none⟩ (.slice a7 (N.sn).length k7)).setCell ⟨w.heap.size+3,8,none⟩ (.slice g7 (N.lg).length j7)):=(Wr.setCell (p:=⟨w.heap.size+3,8,none⟩) (Wr.setCell (p:=⟨w.heap.size+3,7,none⟩) (Wr.setCell (p:=⟨w.heap.size+3,6,none⟩) (Wr.setCell (p:=⟨w.heap.size+3,5,none⟩) (Wr.setCell (p:=⟨w.heap.size+3,4,none⟩) (Wr.setCell (p:=⟨w.heap.size+3,3,none⟩) (Wr.refl (fun x=>x=w.heap.size+3) _) rfl (.int .i64 N.tm)) rfl (.int .i64 N.vt)) rfl (.int .i64 N.si)) rfl (.int .i64 N.st)) rfl (.slice a7 (N.sn).length k7)) rfl (.slice g7 (N.lg).length j7))
    refine ⟨⟨by simp [go_sem,d0],by simp [go_sem,d1],by simp [go_sem,d2],by simp [go_sem,d3],by simp [go_sem,d4],by simp [go_sem,d5],by simp [go_sem,d6],by simp [go_sem,d7],by simp [go_sem,d8]⟩,fun o=>?_,R7.out.wr hw5 (by omega) (fun b hb=>by omega),_,hw5l,(HO7.out.wr hw5 (fun b h1 h2 e=>by omega)).up (Nat.le_refl _) hw5.size⟩
    simp only [World.frozen?_setCell]
    exact DF.out o
   clear d0 d1 d2 d3 d4 d5 d6 d7 d8 e3 e4 e5 e6 e7 e8
   rintro W8 ⟨N8,_,R8,lo,hlo,I8⟩
   obtain ⟨d0,d1,d2,d3,d4,d5,d6,d7,d8⟩:=N8
   have HR8:=hide R8
   have HFn:=hide (ret_op (r:=w.heap.size+2) (x0:=.int .i64 0) (x1:=.int .i64 0) (x2:=.int .i64 0) (x3:=.int .i64 N.tm) (x4:=.int .i64 N.vt) (x5:=.int .i64 N.si) (x6:=.int .i64 N.st) R8.below R8.ge I8 (by omega))
   clear I8 R8
   obtain ⟨_,⟨c0,c1,c2,c3,c4,c5,c6,c7,c8⟩,F,_⟩:=HR8.out
   have f0:=F 0
   have f1:=F 1
   have f2:=F 2
   have f3:=F 3
   have f4:=F 4
   have f5:=F 5
   have f6:=F 6
   have f7:=F 7
   have f8:=F 8
   clear F
   go_wp2
   refine bodyPost_ret (v:=.agg #[.int .i64 0,.int .i64 0,.int .i64 0,.int .i64 N.tm,.int .i64 N.vt,.int .i64 N.si,.int .i64 N.st,.slice a7 (N.sn).length k7,.slice g7 (N.lg).length j7]) (by simp [results,Tryz.results24,go_sem,c0,c1,c2,c3,c4,c5,c6,c7,c8]) rfl ⟨_,_,rfl,HFn.out.1,HFn.out.2⟩
  ·simp only [if_neg hC0]
   have hCb:(C==0)=false:=by simpa using hC0
   have hCc:(C !=0)=true:=by simp [hC0]
   generalize r.sn.length=l at*
   generalize r.lg.length=m at*
   generalize o.sn.length=l2 at*
   generalize o.lg.length=m2 at*
   generalize r.tm=a at*
   generalize r.vt=b at*
   generalize r.si=c at*
   generalize r.st=d at*
   generalize o.tm=a2 at*
   generalize o.vt=b2 at*
   generalize o.si=c2 at*
   generalize o.st=d2 at*
   subst h
   have BA0:=below_on (below_on (below_alloc w (.cells #[.int .i64 a,.int .i64 b,.int .i64 c,.int .i64 d,.slice ay l cy,.slice az m cz] 27)) (below_alloc _ (.cells #[.int .i64 1,.int .i64 b2,.int .i64 c2,.int .i64 d2,.slice au l2 cu,.slice av m2 cv] 29))) (below_alloc _ (.cells #[.int .i64 0,.int .i64 0,.int .i64 0,.int .i64 0,.int .i64 0,.int .i64 0,.int .i64 0,.slice none 0 0,.slice none 0 0] 33))
   have VR0:=((Var6_new w (.int .i64 a) (.int .i64 b) (.int .i64 c) (.int .i64 d) (.slice ay l cy) (.slice az m cz) 27).later (below_alloc _ (.cells #[.int .i64 1,.int .i64 b2,.int .i64 c2,.int .i64 d2,.slice au l2 cu,.slice av m2 cv] 29))).later (below_alloc _ (.cells #[.int .i64 0,.int .i64 0,.int .i64 0,.int .i64 0,.int .i64 0,.int .i64 0,.int .i64 0,.slice none 0 0,.slice none 0 0] 33))
   have VO0:=(Var6_new (w.alloc (.cells #[.int .i64 a,.int .i64 b,.int .i64 c,.int .i64 d,.slice ay l cy,.slice az m cz] 27)) (.int .i64 1) (.int .i64 b2) (.int .i64 c2) (.int .i64 d2) (.slice au l2 cu) (.slice av m2 cv) 29).later (below_alloc _ (.cells #[.int .i64 0,.int .i64 0,.int .i64 0,.int .i64 0,.int .i64 0,.int .i64 0,.int .i64 0,.slice none 0 0,.slice none 0 0] 33))
   rw [World.size_alloc] at VO0
   have RA0:=Res9.new (below_on (below_alloc w (.cells #[.int .i64 a,.int .i64 b,.int .i64 c,.int .i64 d,.slice ay l cy,.slice az m cz] 27)) (below_alloc _ (.cells #[.int .i64 1,.int .i64 b2,.int .i64 c2,.int .i64 d2,.slice au l2 cu,.slice av m2 cv] 29))) 33
   rw [World.size_alloc,World.size_alloc] at RA0
   obtain ⟨W3,hW3⟩: ∃x,(((w.alloc (.cells #[.int .i64 a,.int .i64 b,.int .i64 c,.int .i64 d,.slice ay l cy,.slice az m cz] 27)).alloc (.cells #[.int .i64 1,.int .i64 b2,.int .i64 c2,.int .i64 d2,.slice au l2 cu,.slice av m2 cv] 29)).alloc (.cells #[.int .i64 0,.int .i64 0,.int .i64 0,.int .i64 0,.int .i64 0,.int .i64 0,.int .i64 0,.slice none 0 0,.slice none 0 0] 33))=x:=⟨_,rfl⟩
   have hs3:W3.heap.size=w.heap.size+3:=by rw [← hW3];simp
   rw [hW3] at BA0 VR0 VO0 RA0
   have BA3:=hide BA0
   have VA3:=hide VR0
   have OA3:=hide VO0
   have RA3:=hide RA0
   clear BA0 VR0 VO0 RA0
   go_enter Tryz.func24,Tryz.ntmps24
   go_upto_region 1 with fail
   (try rw [hW3])
   clear hW3
   obtain ⟨v0,v1,v2,v3,v4,v5⟩:=VA3.out
   skip
   go_upto_region 2 with fail
   have hbd:=below_alloc W3 (.cells #[.int .i64 0,.int .i64 0,.int .i64 0,.int .i64 a,.int .i64 b,.int .i64 c,.int .i64 d,.slice ay l cy,.slice az m cz] 33)
   have BA:=hide (below_on BA3.out hbd)
   have VA:=hide (VA3.out.later hbd)
   have OA:=hide (OA3.out.later hbd)
   have RA:=hide (RA3.out.later hbd)
   have DA0:=Var9_new W3 (.int .i64 0) (.int .i64 0) (.int .i64 0) (.int .i64 a) (.int .i64 b) (.int .i64 c) (.int .i64 d) (.slice ay l cy) (.slice az m cz) 33
   rw [hs3] at DA0
   have DA:=hide DA0
   have DFA0: ∀o,(W3.alloc (.cells #[.int .i64 0,.int .i64 0,.int .i64 0,.int .i64 a,.int .i64 b,.int .i64 c,.int .i64 d,.slice ay l cy,.slice az m cz] 33)).frozen? ⟨w.heap.size+3,o,none⟩=false:=fun q=>by rw [← hs3];simp [go_sem]
   have DFA:=hide DFA0
   obtain ⟨W,hW⟩: ∃x,W3.alloc (.cells #[.int .i64 0,.int .i64 0,.int .i64 0,.int .i64 a,.int .i64 b,.int .i64 c,.int .i64 d,.slice ay l cy,.slice az m cz] 33)=x:=⟨_,rfl⟩
   have hsW:W.heap.size=w.heap.size+4:=by rw [← hW];simp [hs3]
   rw [hW] at BA VA OA RA DA DFA
   (try rw [hW])
   (try simp only [hs3])
   clear hbd DA0 DFA0 hW BA3 VA3 OA3 RA3 hs3 v0 v1 v2 v3 v4 v5
   obtain ⟨p0,p1,p2,p3,p4,p5⟩:=OA.out
   have HT:=hide (table1 W)
   go_wp2_with fail
   refine HT.out.mono ?_
   rintro e w1 ⟨rfl,hb⟩
   have BB:=hide (below_on BA.out hb)
   have VB:=hide (VA.out.later hb)
   have OB:=hide (OA.out.later hb)
   have RB:=hide (RA.out.later hb)
   have DB:=hide (DA.out.later hb)
   have DFB:Hid (∀o,w1.frozen? ⟨w.heap.size+3,o,none⟩=false):=fun o=>((bcell hb).2 _ _ DA.out.lt).trans (DFA.out o)
   have hz1:=hb.size
   clear hb p0 p1 p2 p3 p4 p5 VA OA RA DA DFA BA HT
   obtain ⟨v0,v1,v2,v3,v4,v5⟩:=VB.out
   obtain ⟨p0,p1,p2,p3,p4,p5⟩:=OB.out
   have HE:=hide (HD.out _ BB.out)
   have asC:=Tryz.asCh
   go_wp2_with fail
   clear asC
   refine HE.out.mono ?_
   rintro e w2 ⟨y1,z1,rfl,hb,ho⟩
   obtain ⟨a1,k1,g1,j1,rfl,rfl⟩:=ho.shape
   have hbn:=below_on hb (below_alloc w2 (.cells #[.int .i64 C,.int .i64 N.tm,.int .i64 N.vt,.int .i64 N.si,.int .i64 N.st,.slice a1 N.sn.length k1,.slice g1 N.lg.length j1] 79))
   have BC:=hide (below_on BB.out hbn)
   have RC:=hide (RB.out.later hbn)
   have DC:=hide (DB.out.later hbn)
   have DF:Hid (∀o,(w2.alloc (.cells #[.int .i64 C,.int .i64 N.tm,.int .i64 N.vt,.int .i64 N.si,.int .i64 N.st,.slice a1 N.sn.length k1,.slice g1 N.lg.length j1] 79)).frozen? ⟨w.heap.size+3,o,none⟩=false):=fun o=>((bcell hbn).2 _ _ DB.out.lt).trans (DFB.out o)
   have NC:=hide (Var7_new w2 (.int .i64 C) (.int .i64 N.tm) (.int .i64 N.vt) (.int .i64 N.si) (.int .i64 N.st) (.slice a1 N.sn.length k1) (.slice g1 N.lg.length j1) 79)
   have hz2:=hb.size
   have IC:=hide (ho.later (below_alloc w2 (.cells #[.int .i64 C,.int .i64 N.tm,.int .i64 N.vt,.int .i64 N.si,.int .i64 N.st,.slice a1 N.sn.length k1,.slice g1 N.lg.length j1] 79)))
   clear ho
   clear hb v0 v1 v2 v3 v4 v5 p0 p1 p2 p3 p4 p5 VB OB RB DB DFB BB HE HD
   go_upto_region 6 with fail
   obtain ⟨X,hX⟩: ∃x,w2.alloc (.cells #[.int .i64 C,.int .i64 N.tm,.int .i64 N.vt,.int .i64 N.si,.int .i64 N.st,.slice a1 N.sn.length k1,.slice g1 N.lg.length j1] 79)=x:=⟨_,rfl⟩
   rw [hX] at BC RC DC DF NC IC
   (try rw [hX])
   clear hbn hX
   obtain ⟨d0,d1,d2,d3,d4,d5,d6,d7,d8⟩:=DC.out
   obtain ⟨n0,n1,n2,n3,n4,n5,n6⟩:=NC.out
   have e0:=DF.out 0
   have e1:=DF.out 1
   have e2:=DF.out 2
   have e3:=DF.out 3
   have e4:=DF.out 4
   have e5:=DF.out 5
   have e6:=DF.out 6
   have e7:=DF.out 7
   have e8:=DF.out 8
   go_upto_region 13 with fail
   refine forget (fun W5=>Var9 W5 (w.heap.size+3) (.int .i64 0) (.int .i64 C) (.int .i64 0) (.int .i64 a) (.int .i64 b) (.int .i64 c) (.int .i64 d) (.slice ay l cy) (.slice az m cz)∧(∀o,W5.frozen? ⟨w.heap.size+3,o,none⟩=false)∧Res9 w W5 (w.heap.size+2)∧(∃S,RdI S W5 (.slice ay l cy) r.sn)∧(∃S,RdJ S W5 (.slice az m cz) r.lg)) ?sa1n ?_
   case sa1n=>
    have hw5:Wr (fun x=>x=w.heap.size+3) X (X.setCell ⟨w.heap.size+3,1,none⟩ (.int .i64 C)):=(Wr.setCell (p:=⟨w.heap.size+3,1,none⟩) (Wr.refl (fun x=>x=w.heap.size+3) _) rfl (.int .i64 C))
    refine ⟨⟨by simp [go_sem,d0],by simp [go_sem,d1],by simp [go_sem,d2],by simp [go_sem,d3],by simp [go_sem,d4],by simp [go_sem,d5],by simp [go_sem,d6],by simp [go_sem,d7],by simp [go_sem,d8]⟩,fun o=>?_,RC.out.wr hw5 (by omega) (fun b hb=>by omega),⟨_,((RdI_old HY.out).later BC.out).wr hw5 (fun _ b hb e=>by omega)⟩,⟨_,((RdJ_old HZ.out).later BC.out).wr hw5 (fun b hb e=>by omega)⟩⟩
    simp only [World.frozen?_setCell]
    exact DF.out o
   clear d0 d1 d2 d3 d4 d5 d6 d7 d8 n0 n1 n2 n3 n4 n5 n6 e0 e1 e2 e3 e4 e5 e6 e7 e8 DC NC RC DF BC
   rintro W5 ⟨N9,F9,R9,⟨_,hyd⟩,⟨_,hzd⟩⟩
   have HCp:=hide (copyRaftI (a) (b) (c) (d) hyd hzd HRo.out.1 HRo.out.2.1 HRo.out.2.2)
   obtain ⟨d0,d1,d2,d3,d4,d5,d6,d7,d8⟩:=id N9
   have hw5l:w.heap.size+3<W5.heap.size:=N9.lt
   go_wp2_with fail
   refine HCp.out.mono ?_
   rintro e w7 ⟨y7,z7,rfl,hb,ho⟩
   obtain ⟨a7,k7,g7,j7,hy7,hz7⟩:=ho.shape
   subst hy7
   subst hz7
   have D7:=hide (N9.later hb)
   have DF:Hid (∀o,w7.frozen? ⟨w.heap.size+3,o,none⟩=false):=fun o=>((bcell hb).2 _ _ N9.lt).trans (F9 o)
   have R7:=hide (R9.later hb)
   have HO7:=hide ho
   clear hb ho HCp N9 F9 R9 hyd hzd d0 d1 d2 d3 d4 d5 d6 d7 d8
   obtain ⟨d0,d1,d2,d3,d4,d5,d6,d7,d8⟩:=D7.out
   have e3:=DF.out 3
   have e4:=DF.out 4
   have e5:=DF.out 5
   have e6:=DF.out 6
   have e7:=DF.out 7
   have e8:=DF.out 8
   go_upto_region 14 with fail
   refine forget (fun W5=>Var9 W5 (w.heap.size+3) (.int .i64 0) (.int .i64 C) (.int .i64 0) (.int .i64 a) (.int .i64 b) (.int .i64 c) (.int .i64 d) (.slice a7 (r.sn).length k7) (.slice g7 (r.lg).length j7)∧(∀o,W5.frozen? ⟨w.heap.size+3,o,none⟩=false)∧Res9 w W5 (w.heap.size+2)∧(∃lo,w.heap.size+3<lo∧IvR lo W5.heap.size W5 (.slice a7 (r.sn).length k7) (.slice g7 (r.lg).length j7) (r.sn) (r.lg))) ?sb1n ?_
   case sb1n=>
    have hw5:Wr (fun x=>x=w.heap.size+3) w7 ((((((w7.setCell ⟨w.heap.size+3,3,none⟩ (.int .i64 a)).setCell ⟨w.heap.size+3,4,none⟩ (.int .i64 b)).setCell ⟨w.heap.size+3,5,none⟩ (.int .i64 c)).setCell ⟨w.heap.size+3,6,none⟩ (.int .i64 d)).setCell ⟨w.heap.size+3,7,none⟩ (.slice a7 (r.sn).length k7)).setCell ⟨w.heap.size+3,8,none⟩ (.slice g7 (r.lg).length j7)):=(Wr.setCell (p:=⟨w.heap.size+3,8,none⟩) (Wr.setCell (p:=⟨w.heap.size+3,7,none⟩) (Wr.setCell (p:=⟨w.heap.size+3,6,none⟩) (Wr.setCell (p:=⟨w.heap.size+3,5,none⟩) (Wr.setCell (p:=⟨w.heap.size+3,4,none⟩) (Wr.setCell (p:=⟨w.heap.size+3,3,none⟩) (Wr.refl (fun x=>x=w.heap.size+3) _) rfl (.int .i64 a)) rfl (.int .i64 b)) rfl (.int .i64 c)) rfl (.int .i64 d)) rfl (.slice a7 (r.sn).length k7)) rfl (.slice g7 (r.lg).length j7))
    refine ⟨⟨by simp [go_sem,d0],by simp [go_sem,d1],by simp [go_sem,d2],by simp [go_sem,d3],by simp [go_sem,d4],by simp [go_sem,d5],by simp [go_sem,d6],by simp [go_sem,d7],by simp [go_sem,d8]⟩,fun o=>?_,R7.out.wr hw5 (by omega) (fun b hb=>by omega),_,hw5l,(HO7.out.wr hw5 (fun b h1 h2 e=>by omega)).up (Nat.le_refl _) hw5.size⟩
    simp only [World.frozen?_setCell]
    exact DF.out o
   clear d0 d1 d2 d3 d4 d5 d6 d7 d8 e3 e4 e5 e6 e7 e8
   rintro W8 ⟨N8,_,R8,lo,hlo,I8⟩
   obtain ⟨d0,d1,d2,d3,d4,d5,d6,d7,d8⟩:=N8
   have HR8:=hide R8
   have HFn:=hide (ret_op (r:=w.heap.size+2) (x0:=.int .i64 0) (x1:=.int .i64 C) (x2:=.int .i64 0) (x3:=.int .i64 a) (x4:=.int .i64 b) (x5:=.int .i64 c) (x6:=.int .i64 d) R8.below R8.ge I8 (by omega))
   clear I8 R8
   obtain ⟨_,⟨c0,c1,c2,c3,c4,c5,c6,c7,c8⟩,F,_⟩:=HR8.out
   have f0:=F 0
   have f1:=F 1
   have f2:=F 2
   have f3:=F 3
   have f4:=F 4
   have f5:=F 5
   have f6:=F 6
   have f7:=F 7
   have f8:=F 8
   clear F
   go_wp2
   refine bodyPost_ret (v:=.agg #[.int .i64 0,.int .i64 C,.int .i64 0,.int .i64 a,.int .i64 b,.int .i64 c,.int .i64 d,.slice a7 (r.sn).length k7,.slice g7 (r.lg).length j7]) (by simp [results,Tryz.results24,go_sem,c0,c1,c2,c3,c4,c5,c6,c7,c8]) rfl ⟨_,_,rfl,HFn.out.1,HFn.out.2⟩
 ·skip
  obtain ⟨e1,e2,e3⟩:=dy2 (r:=r) h
  have HD:=hide (fun (w':World) (hb:Below w.heap.size w w')=>deed2 r o (hg.later hb) (hy.later hb) (hz.later hb) hcp (hu.later hb) (hv.later hb) hcv)
  rw [e1,e2,e3]
  clear e1 e2 e3
  have HN:=hide (room_tot (apRR_tot r o.vt o.si o.lg))
  obtain ⟨C,hC⟩: ∃C,apRC r o.vt o.si o.lg=C:=⟨_,rfl⟩
  obtain ⟨N,hN⟩: ∃N,apRR r o.vt o.si o.lg=N:=⟨_,rfl⟩
  rw [hC,hN] at HD
  rw [hC,hN]
  rw [hN] at HN
  clear hC hN hy hz hu hv hcp hcv hg h0 h1
  by_cases hC0:C=0
  ·subst hC0
   simp only [if_true]
   generalize r.sn.length=l at*
   generalize r.lg.length=m at*
   generalize o.sn.length=l2 at*
   generalize o.lg.length=m2 at*
   generalize r.tm=a at*
   generalize r.vt=b at*
   generalize r.si=c at*
   generalize r.st=d at*
   generalize o.tm=a2 at*
   generalize o.vt=b2 at*
   generalize o.si=c2 at*
   generalize o.st=d2 at*
   subst h
   have BA0:=below_on (below_on (below_alloc w (.cells #[.int .i64 a,.int .i64 b,.int .i64 c,.int .i64 d,.slice ay l cy,.slice az m cz] 27)) (below_alloc _ (.cells #[.int .i64 2,.int .i64 b2,.int .i64 c2,.int .i64 d2,.slice au l2 cu,.slice av m2 cv] 29))) (below_alloc _ (.cells #[.int .i64 0,.int .i64 0,.int .i64 0,.int .i64 0,.int .i64 0,.int .i64 0,.int .i64 0,.slice none 0 0,.slice none 0 0] 33))
   have VR0:=((Var6_new w (.int .i64 a) (.int .i64 b) (.int .i64 c) (.int .i64 d) (.slice ay l cy) (.slice az m cz) 27).later (below_alloc _ (.cells #[.int .i64 2,.int .i64 b2,.int .i64 c2,.int .i64 d2,.slice au l2 cu,.slice av m2 cv] 29))).later (below_alloc _ (.cells #[.int .i64 0,.int .i64 0,.int .i64 0,.int .i64 0,.int .i64 0,.int .i64 0,.int .i64 0,.slice none 0 0,.slice none 0 0] 33))
   have VO0:=(Var6_new (w.alloc (.cells #[.int .i64 a,.int .i64 b,.int .i64 c,.int .i64 d,.slice ay l cy,.slice az m cz] 27)) (.int .i64 2) (.int .i64 b2) (.int .i64 c2) (.int .i64 d2) (.slice au l2 cu) (.slice av m2 cv) 29).later (below_alloc _ (.cells #[.int .i64 0,.int .i64 0,.int .i64 0,.int .i64 0,.int .i64 0,.int .i64 0,.int .i64 0,.slice none 0 0,.slice none 0 0] 33))
   rw [World.size_alloc] at VO0
   have RA0:=Res9.new (below_on (below_alloc w (.cells #[.int .i64 a,.int .i64 b,.int .i64 c,.int .i64 d,.slice ay l cy,.slice az m cz] 27)) (below_alloc _ (.cells #[.int .i64 2,.int .i64 b2,.int .i64 c2,.int .i64 d2,.slice au l2 cu,.slice av m2 cv] 29))) 33
   rw [World.size_alloc,World.size_alloc] at RA0
   obtain ⟨W3,hW3⟩: ∃x,(((w.alloc (.cells #[.int .i64 a,.int .i64 b,.int .i64 c,.int .i64 d,.slice ay l cy,.slice az m cz] 27)).alloc (.cells #[.int .i64 2,.int .i64 b2,.int .i64 c2,.int .i64 d2,.slice au l2 cu,.slice av m2 cv] 29)).alloc (.cells #[.int .i64 0,.int .i64 0,.int .i64 0,.int .i64 0,.int .i64 0,.int .i64 0,.int .i64 0,.slice none 0 0,.slice none 0 0] 33))=x:=⟨_,rfl⟩
   have hs3:W3.heap.size=w.heap.size+3:=by rw [← hW3];simp
   rw [hW3] at BA0 VR0 VO0 RA0
   have BA3:=hide BA0
   have VA3:=hide VR0
   have OA3:=hide VO0
   have RA3:=hide RA0
   clear BA0 VR0 VO0 RA0
   go_enter Tryz.func24,Tryz.ntmps24
   go_upto_region 1 with fail
   (try rw [hW3])
   clear hW3
   obtain ⟨v0,v1,v2,v3,v4,v5⟩:=VA3.out
   skip
   go_upto_region 2 with fail
   have hbd:=below_alloc W3 (.cells #[.int .i64 0,.int .i64 0,.int .i64 0,.int .i64 a,.int .i64 b,.int .i64 c,.int .i64 d,.slice ay l cy,.slice az m cz] 33)
   have BA:=hide (below_on BA3.out hbd)
   have VA:=hide (VA3.out.later hbd)
   have OA:=hide (OA3.out.later hbd)
   have RA:=hide (RA3.out.later hbd)
   have DA0:=Var9_new W3 (.int .i64 0) (.int .i64 0) (.int .i64 0) (.int .i64 a) (.int .i64 b) (.int .i64 c) (.int .i64 d) (.slice ay l cy) (.slice az m cz) 33
   rw [hs3] at DA0
   have DA:=hide DA0
   have DFA0: ∀o,(W3.alloc (.cells #[.int .i64 0,.int .i64 0,.int .i64 0,.int .i64 a,.int .i64 b,.int .i64 c,.int .i64 d,.slice ay l cy,.slice az m cz] 33)).frozen? ⟨w.heap.size+3,o,none⟩=false:=fun q=>by rw [← hs3];simp [go_sem]
   have DFA:=hide DFA0
   obtain ⟨W,hW⟩: ∃x,W3.alloc (.cells #[.int .i64 0,.int .i64 0,.int .i64 0,.int .i64 a,.int .i64 b,.int .i64 c,.int .i64 d,.slice ay l cy,.slice az m cz] 33)=x:=⟨_,rfl⟩
   have hsW:W.heap.size=w.heap.size+4:=by rw [← hW];simp [hs3]
   rw [hW] at BA VA OA RA DA DFA
   (try rw [hW])
   (try simp only [hs3])
   clear hbd DA0 DFA0 hW BA3 VA3 OA3 RA3 hs3 v0 v1 v2 v3 v4 v5
   obtain ⟨p0,p1,p2,p3,p4,p5⟩:=OA.out
   have HT:=hide (table2 W)
   go_wp2_with fail
   refine HT.out.mono ?_
   rintro e w1 ⟨rfl,hb⟩
   have BB:=hide (below_on BA.out hb)
   have VB:=hide (VA.out.later hb)
   have OB:=hide (OA.out.later hb)
   have RB:=hide (RA.out.later hb)
   have DB:=hide (DA.out.later hb)
   have DFB:Hid (∀o,w1.frozen? ⟨w.heap.size+3,o,none⟩=false):=fun o=>((bcell hb).2 _ _ DA.out.lt).trans (DFA.out o)
   have hz1:=hb.size
   clear hb p0 p1 p2 p3 p4 p5 VA OA RA DA DFA BA HT
   obtain ⟨v0,v1,v2,v3,v4,v5⟩:=VB.out
   obtain ⟨p0,p1,p2,p3,p4,p5⟩:=OB.out
   have HE:=hide (HD.out _ BB.out)
   have asC:=Tryz.asCh
   go_wp2_with fail
   clear asC
   refine HE.out.mono ?_
   rintro e w2 ⟨y1,z1,rfl,hb,ho⟩
   obtain ⟨a1,k1,g1,j1,rfl,rfl⟩:=ho.shape
   have hbn:=below_on hb (below_alloc w2 (.cells #[.int .i64 0,.int .i64 N.tm,.int .i64 N.vt,.int .i64 N.si,.int .i64 N.st,.slice a1 N.sn.length k1,.slice g1 N.lg.length j1] 79))
   have BC:=hide (below_on BB.out hbn)
   have RC:=hide (RB.out.later hbn)
   have DC:=hide (DB.out.later hbn)
   have DF:Hid (∀o,(w2.alloc (.cells #[.int .i64 0,.int .i64 N.tm,.int .i64 N.vt,.int .i64 N.si,.int .i64 N.st,.slice a1 N.sn.length k1,.slice g1 N.lg.length j1] 79)).frozen? ⟨w.heap.size+3,o,none⟩=false):=fun o=>((bcell hbn).2 _ _ DB.out.lt).trans (DFB.out o)
   have NC:=hide (Var7_new w2 (.int .i64 0) (.int .i64 N.tm) (.int .i64 N.vt) (.int .i64 N.si) (.int .i64 N.st) (.slice a1 N.sn.length k1) (.slice g1 N.lg.length j1) 79)
   have hz2:=hb.size
   have IC:=hide (ho.later (below_alloc w2 (.cells #[.int .i64 0,.int .i64 N.tm,.int .i64 N.vt,.int .i64 N.si,.int .i64 N.st,.slice a1 N.sn.length k1,.slice g1 N.lg.length j1] 79)))
   clear ho
   clear hb v0 v1 v2 v3 v4 v5 p0 p1 p2 p3 p4 p5 VB OB RB DB DFB BB HE HD
   go_upto_region 6 with fail
   obtain ⟨X,hX⟩: ∃x,w2.alloc (.cells #[.int .i64 0,.int .i64 N.tm,.int .i64 N.vt,.int .i64 N.si,.int .i64 N.st,.slice a1 N.sn.length k1,.slice g1 N.lg.length j1] 79)=x:=⟨_,rfl⟩
   rw [hX] at BC RC DC DF NC IC
   (try rw [hX])
   clear hbn hX
   obtain ⟨d0,d1,d2,d3,d4,d5,d6,d7,d8⟩:=DC.out
   obtain ⟨n0,n1,n2,n3,n4,n5,n6⟩:=NC.out
   have e0:=DF.out 0
   have e1:=DF.out 1
   have e2:=DF.out 2
   have e3:=DF.out 3
   have e4:=DF.out 4
   have e5:=DF.out 5
   have e6:=DF.out 6
   have e7:=DF.out 7
   have e8:=DF.out 8
   go_upto_region 13 with fail
   refine forget (fun W5=>Var9 W5 (w.heap.size+3) (.int .i64 0) (.int .i64 0) (.int .i64 0) (.int .i64 N.tm) (.int .i64 N.vt) (.int .i64 N.si) (.int .i64 N.st) (.slice a1 N.sn.length k1) (.slice g1 N.lg.length j1)∧(∀o,W5.frozen? ⟨w.heap.size+3,o,none⟩=false)∧Res9 w W5 (w.heap.size+2)∧(∃S,RdI S W5 (.slice a1 N.sn.length k1) N.sn)∧(∃S,RdJ S W5 (.slice g1 N.lg.length j1) N.lg)) ?sa2y ?_
   case sa2y=>
    have hw5:Wr (fun x=>x=w.heap.size+3) X (((((((X.setCell ⟨w.heap.size+3,1,none⟩ (.int .i64 0)).setCell ⟨w.heap.size+3,3,none⟩ (.int .i64 N.tm)).setCell ⟨w.heap.size+3,4,none⟩ (.int .i64 N.vt)).setCell ⟨w.heap.size+3,5,none⟩ (.int .i64 N.si)).setCell ⟨w.heap.size+3,6,none⟩ (.int .i64 N.st)).setCell ⟨w.heap.size+3,7,none⟩ (.slice a1 N.sn.length k1)).setCell ⟨w.heap.size+3,8,none⟩ (.slice g1 N.lg.length j1)):=(Wr.setCell (p:=⟨w.heap.size+3,8,none⟩) (Wr.setCell (p:=⟨w.heap.size+3,7,none⟩) (Wr.setCell (p:=⟨w.heap.size+3,6,none⟩) (Wr.setCell (p:=⟨w.heap.size+3,5,none⟩) (Wr.setCell (p:=⟨w.heap.size+3,4,none⟩) (Wr.setCell (p:=⟨w.heap.size+3,3,none⟩) (Wr.setCell (p:=⟨w.heap.size+3,1,none⟩) (Wr.refl (fun x=>x=w.heap.size+3) _) rfl (.int .i64 0)) rfl (.int .i64 N.tm)) rfl (.int .i64 N.vt)) rfl (.int .i64 N.si)) rfl (.int .i64 N.st)) rfl (.slice a1 N.sn.length k1)) rfl (.slice g1 N.lg.length j1))
    refine ⟨⟨by simp [go_sem,d0],by simp [go_sem,d1],by simp [go_sem,d2],by simp [go_sem,d3],by simp [go_sem,d4],by simp [go_sem,d5],by simp [go_sem,d6],by simp [go_sem,d7],by simp [go_sem,d8]⟩,fun o=>?_,RC.out.wr hw5 (by omega) (fun b hb=>by omega),⟨_,IC.out.rdI.wr hw5 (fun _ b hb e=>by have:=hb.1;omega)⟩,⟨_,IC.out.rdJ.wr hw5 (fun b hb e=>by have:=hb.1;omega)⟩⟩
    simp only [World.frozen?_setCell]
    exact DF.out o
   clear d0 d1 d2 d3 d4 d5 d6 d7 d8 n0 n1 n2 n3 n4 n5 n6 e0 e1 e2 e3 e4 e5 e6 e7 e8 DC NC RC DF BC
   rintro W5 ⟨N9,F9,R9,⟨_,hyd⟩,⟨_,hzd⟩⟩
   have HCp:=hide (copyRaftI (N.tm) (N.vt) (N.si) (N.st) hyd hzd HN.out.1 HN.out.2.1 HN.out.2.2)
   obtain ⟨d0,d1,d2,d3,d4,d5,d6,d7,d8⟩:=id N9
   have hw5l:w.heap.size+3<W5.heap.size:=N9.lt
   go_wp2_with fail
   refine HCp.out.mono ?_
   rintro e w7 ⟨y7,z7,rfl,hb,ho⟩
   obtain ⟨a7,k7,g7,j7,hy7,hz7⟩:=ho.shape
   subst hy7
   subst hz7
   have D7:=hide (N9.later hb)
   have DF:Hid (∀o,w7.frozen? ⟨w.heap.size+3,o,none⟩=false):=fun o=>((bcell hb).2 _ _ N9.lt).trans (F9 o)
   have R7:=hide (R9.later hb)
   have HO7:=hide ho
   clear hb ho HCp N9 F9 R9 hyd hzd d0 d1 d2 d3 d4 d5 d6 d7 d8
   obtain ⟨d0,d1,d2,d3,d4,d5,d6,d7,d8⟩:=D7.out
   have e3:=DF.out 3
   have e4:=DF.out 4
   have e5:=DF.out 5
   have e6:=DF.out 6
   have e7:=DF.out 7
   have e8:=DF.out 8
   go_upto_region 14 with fail
   refine forget (fun W5=>Var9 W5 (w.heap.size+3) (.int .i64 0) (.int .i64 0) (.int .i64 0) (.int .i64 N.tm) (.int .i64 N.vt) (.int .i64 N.si) (.int .i64 N.st) (.slice a7 (N.sn).length k7) (.slice g7 (N.lg).length j7)∧(∀o,W5.frozen? ⟨w.heap.size+3,o,none⟩=false)∧Res9 w W5 (w.heap.size+2)∧(∃lo,w.heap.size+3<lo∧IvR lo W5.heap.size W5 (.slice a7 (N.sn).length k7) (.slice g7 (N.lg).length j7) (N.sn) (N.lg))) ?sb2y ?_
   case sb2y=>
    have hw5:Wr (fun x=>x=w.heap.size+3) w7 ((((((w7.setCell ⟨w.heap.size+3,3,none⟩ (.int .i64 N.tm)).setCell ⟨w.heap.size+3,4,none⟩ (.int .i64 N.vt)).setCell ⟨w.heap.size+3,5,none⟩ (.int .i64 N.si)).setCell ⟨w.heap.size+3,6,none⟩ (.int .i64 N.st)).setCell ⟨w.heap.size+3,7,none⟩ (.slice a7 (N.sn).length k7)).setCell ⟨w.heap.size+3,8,none⟩ (.slice g7 (N.lg).length j7)):=(Wr.setCell (p:=⟨w.heap.size+3,8,none⟩) (Wr.setCell (p:=⟨w.heap.size+3,7,none⟩) (Wr.setCell (p:=⟨w.heap.size+3,6,none⟩) (Wr.setCell (p:=⟨w.heap.size+3,5,none⟩) (Wr.setCell (p:=⟨w.heap.size+3,4,none⟩) (Wr.setCell (p:=⟨w.heap.size+3,3,none⟩) (Wr.refl (fun x=>x=w.heap.size+3) _) rfl (.int .i64 N.tm)) rfl (.int .i64 N.vt)) rfl (.int .i64 N.si)) rfl (.int .i64 N.st)) rfl (.slice a7 (N.sn).length k7)) rfl (.slice g7 (N.lg).length j7))
    refine ⟨⟨by simp [go_sem,d0],by simp [go_sem,d1],by simp [go_sem,d2],by simp [go_sem,d3],by simp [go_sem,d4],by simp [go_sem,d5],by simp [go_sem,d6],by simp [go_sem,d7],by simp [go_sem,d8]⟩,fun o=>?_,R7.out.wr hw5 (by omega) (fun b hb=>by omega),_,hw5l,(HO7.out.wr hw5 (fun b h1 h2 e=>by omega)).up (Nat.le_refl _) hw5.size⟩
    simp only [World.frozen?_setCell]
    exact DF.out o
   clear d0 d1 d2 d3 d4 d5 d6 d7 d8 e3 e4 e5 e6 e7 e8
   rintro W8 ⟨N8,_,R8,lo,hlo,I8⟩
   obtain ⟨d0,d1,d2,d3,d4,d5,d6,d7,d8⟩:=N8
   have HR8:=hide R8
   have HFn:=hide (ret_op (r:=w.heap.size+2) (x0:=.int .i64 0) (x1:=.int .i64 0) (x2:=.int .i64 0) (x3:=.int .i64 N.tm) (x4:=.int .i64 N.vt) (x5:=.int .i64 N.si) (x6:=.int .i64 N.st) R8.below R8.ge I8 (by omega))
   clear I8 R8
   obtain ⟨_,⟨c0,c1,c2,c3,c4,c5,c6,c7,c8⟩,F,_⟩:=HR8.out
   have f0:=F 0
   have f1:=F 1
   have f2:=F 2
   have f3:=F 3
   have f4:=F 4
   have f5:=F 5
   have f6:=F 6
   have f7:=F 7
   have f8:=F 8
   clear F
   go_wp2
   refine bodyPost_ret (v:=.agg #[.int .i64 0,.int .i64 0,.int .i64 0,.int .i64 N.tm,.int .i64 N.vt,.int .i64 N.si,.int .i64 N.st,.slice a7 (N.sn).length k7,.slice g7 (N.lg).length j7]) (by simp [results,Tryz.results24,go_sem,c0,c1,c2,c3,c4,c5,c6,c7,c8]) rfl ⟨_,_,rfl,HFn.out.1,HFn.out.2⟩
  ·simp only [if_neg hC0]
   have hCb:(C==0)=false:=by simpa using hC0
   have hCc:(C !=0)=true:=by simp [hC0]
   generalize r.sn.length=l at*
   generalize r.lg.length=m at*
   generalize o.sn.length=l2 at*
   generalize o.lg.length=m2 at*
   generalize r.tm=a at*
   generalize r.vt=b at*
   generalize r.si=c at*
   generalize r.st=d at*
   generalize o.tm=a2 at*
   generalize o.vt=b2 at*
   generalize o.si=c2 at*
   generalize o.st=d2 at*
   subst h
   have BA0:=below_on (below_on (below_alloc w (.cells #[.int .i64 a,.int .i64 b,.int .i64 c,.int .i64 d,.slice ay l cy,.slice az m cz] 27)) (below_alloc _ (.cells #[.int .i64 2,.int .i64 b2,.int .i64 c2,.int .i64 d2,.slice au l2 cu,.slice av m2 cv] 29))) (below_alloc _ (.cells #[.int .i64 0,.int .i64 0,.int .i64 0,.int .i64 0,.int .i64 0,.int .i64 0,.int .i64 0,.slice none 0 0,.slice none 0 0] 33))
   have VR0:=((Var6_new w (.int .i64 a) (.int .i64 b) (.int .i64 c) (.int .i64 d) (.slice ay l cy) (.slice az m cz) 27).later (below_alloc _ (.cells #[.int .i64 2,.int .i64 b2,.int .i64 c2,.int .i64 d2,.slice au l2 cu,.slice av m2 cv] 29))).later (below_alloc _ (.cells #[.int .i64 0,.int .i64 0,.int .i64 0,.int .i64 0,.int .i64 0,.int .i64 0,.int .i64 0,.slice none 0 0,.slice none 0 0] 33))
   have VO0:=(Var6_new (w.alloc (.cells #[.int .i64 a,.int .i64 b,.int .i64 c,.int .i64 d,.slice ay l cy,.slice az m cz] 27)) (.int .i64 2) (.int .i64 b2) (.int .i64 c2) (.int .i64 d2) (.slice au l2 cu) (.slice av m2 cv) 29).later (below_alloc _ (.cells #[.int .i64 0,.int .i64 0,.int .i64 0,.int .i64 0,.int .i64 0,.int .i64 0,.int .i64 0,.slice none 0 0,.slice none 0 0] 33))
   rw [World.size_alloc] at VO0
   have RA0:=Res9.new (below_on (below_alloc w (.cells #[.int .i64 a,.int .i64 b,.int .i64 c,.int .i64 d,.slice ay l cy,.slice az m cz] 27)) (below_alloc _ (.cells #[.int .i64 2,.int .i64 b2,.int .i64 c2,.int .i64 d2,.slice au l2 cu,.slice av m2 cv] 29))) 33
   rw [World.size_alloc,World.size_alloc] at RA0
   obtain ⟨W3,hW3⟩: ∃x,(((w.alloc (.cells #[.int .i64 a,.int .i64 b,.int .i64 c,.int .i64 d,.slice ay l cy,.slice az m cz] 27)).alloc (.cells #[.int .i64 2,.int .i64 b2,.int .i64 c2,.int .i64 d2,.slice au l2 cu,.slice av m2 cv] 29)).alloc (.cells #[.int .i64 0,.int .i64 0,.int .i64 0,.int .i64 0,.int .i64 0,.int .i64 0,.int .i64 0,.slice none 0 0,.slice none 0 0] 33))=x:=⟨_,rfl⟩
   have hs3:W3.heap.size=w.heap.size+3:=by rw [← hW3];simp
   rw [hW3] at BA0 VR0 VO0 RA0
   have BA3:=hide BA0
   have VA3:=hide VR0
   have OA3:=hide VO0
   have RA3:=hide RA0
   clear BA0 VR0 VO0 RA0
   go_enter Tryz.func24,Tryz.ntmps24
   go_upto_region 1 with fail
   (try rw [hW3])
   clear hW3
   obtain ⟨v0,v1,v2,v3,v4,v5⟩:=VA3.out
   skip
   go_upto_region 2 with fail
   have hbd:=below_alloc W3 (.cells #[.int .i64 0,.int .i64 0,.int .i64 0,.int .i64 a,.int .i64 b,.int .i64 c,.int .i64 d,.slice ay l cy,.slice az m cz] 33)
   have BA:=hide (below_on BA3.out hbd)
   have VA:=hide (VA3.out.later hbd)
   have OA:=hide (OA3.out.later hbd)
   have RA:=hide (RA3.out.later hbd)
   have DA0:=Var9_new W3 (.int .i64 0) (.int .i64 0) (.int .i64 0) (.int .i64 a) (.int .i64 b) (.int .i64 c) (.int .i64 d) (.slice ay l cy) (.slice az m cz) 33
   rw [hs3] at DA0
   have DA:=hide DA0
   have DFA0: ∀o,(W3.alloc (.cells #[.int .i64 0,.int .i64 0,.int .i64 0,.int .i64 a,.int .i64 b,.int .i64 c,.int .i64 d,.slice ay l cy,.slice az m cz] 33)).frozen? ⟨w.heap.size+3,o,none⟩=false:=fun q=>by rw [← hs3];simp [go_sem]
   have DFA:=hide DFA0
   obtain ⟨W,hW⟩: ∃x,W3.alloc (.cells #[.int .i64 0,.int .i64 0,.int .i64 0,.int .i64 a,.int .i64 b,.int .i64 c,.int .i64 d,.slice ay l cy,.slice az m cz] 33)=x:=⟨_,rfl⟩
   have hsW:W.heap.size=w.heap.size+4:=by rw [← hW];simp [hs3]
   rw [hW] at BA VA OA RA DA DFA
   (try rw [hW])
   (try simp only [hs3])
   clear hbd DA0 DFA0 hW BA3 VA3 OA3 RA3 hs3 v0 v1 v2 v3 v4 v5
   obtain ⟨p0,p1,p2,p3,p4,p5⟩:=OA.out
   have HT:=hide (table2 W)
   go_wp2_with fail
   refine HT.out.mono ?_
   rintro e w1 ⟨rfl,hb⟩
   have BB:=hide (below_on BA.out hb)
   have VB:=hide (VA.out.later hb)
   have OB:=hide (OA.out.later hb)
   have RB:=hide (RA.out.later hb)
   have DB:=hide (DA.out.later hb)
   have DFB:Hid (∀o,w1.frozen? ⟨w.heap.size+3,o,none⟩=false):=fun o=>((bcell hb).2 _ _ DA.out.lt).trans (DFA.out o)
   have hz1:=hb.size
   clear hb p0 p1 p2 p3 p4 p5 VA OA RA DA DFA BA HT
   obtain ⟨v0,v1,v2,v3,v4,v5⟩:=VB.out
   obtain ⟨p0,p1,p2,p3,p4,p5⟩:=OB.out
   have HE:=hide (HD.out _ BB.out)
   have asC:=Tryz.asCh
   go_wp2_with fail
   clear asC
   refine HE.out.mono ?_
   rintro e w2 ⟨y1,z1,rfl,hb,ho⟩
   obtain ⟨a1,k1,g1,j1,rfl,rfl⟩:=ho.shape
   have hbn:=below_on hb (below_alloc w2 (.cells #[.int .i64 C,.int .i64 N.tm,.int .i64 N.vt,.int .i64 N.si,.int .i64 N.st,.slice a1 N.sn.length k1,.slice g1 N.lg.length j1] 79))
   have BC:=hide (below_on BB.out hbn)
   have RC:=hide (RB.out.later hbn)
   have DC:=hide (DB.out.later hbn)
   have DF:Hid (∀o,(w2.alloc (.cells #[.int .i64 C,.int .i64 N.tm,.int .i64 N.vt,.int .i64 N.si,.int .i64 N.st,.slice a1 N.sn.length k1,.slice g1 N.lg.length j1] 79)).frozen? ⟨w.heap.size+3,o,none⟩=false):=fun o=>((bcell hbn).2 _ _ DB.out.lt).trans (DFB.out o)
   have NC:=hide (Var7_new w2 (.int .i64 C) (.int .i64 N.tm) (.int .i64 N.vt) (.int .i64 N.si) (.int .i64 N.st) (.slice a1 N.sn.length k1) (.slice g1 N.lg.length j1) 79)
   have hz2:=hb.size
   have IC:=hide (ho.later (below_alloc w2 (.cells #[.int .i64 C,.int .i64 N.tm,.int .i64 N.vt,.int .i64 N.si,.int .i64 N.st,.slice a1 N.sn.length k1,.slice g1 N.lg.length j1] 79)))
   clear ho
   clear hb v0 v1 v2 v3 v4 v5 p0 p1 p2 p3 p4 p5 VB OB RB DB DFB BB HE HD
   go_upto_region 6 with fail
   obtain ⟨X,hX⟩: ∃x,w2.alloc (.cells #[.int .i64 C,.int .i64 N.tm,.int .i64 N.vt,.int .i64 N.si,.int .i64 N.st,.slice a1 N.sn.length k1,.slice g1 N.lg.length j1] 79)=x:=⟨_,rfl⟩
   rw [hX] at BC RC DC DF NC IC
   (try rw [hX])
   clear hbn hX
   obtain ⟨d0,d1,d2,d3,d4,d5,d6,d7,d8⟩:=DC.out
   obtain ⟨n0,n1,n2,n3,n4,n5,n6⟩:=NC.out
   have e0:=DF.out 0
   have e1:=DF.out 1
   have e2:=DF.out 2
   have e3:=DF.out 3
   have e4:=DF.out 4
   have e5:=DF.out 5
   have e6:=DF.out 6
   have e7:=DF.out 7
   have e8:=DF.out 8
   go_upto_region 13 with fail
   refine forget (fun W5=>Var9 W5 (w.heap.size+3) (.int .i64 0) (.int .i64 C) (.int .i64 0) (.int .i64 a) (.int .i64 b) (.int .i64 c) (.int .i64 d) (.slice ay l cy) (.slice az m cz)∧(∀o,W5.frozen? ⟨w.heap.size+3,o,none⟩=false)∧Res9 w W5 (w.heap.size+2)∧(∃S,RdI S W5 (.slice ay l cy) r.sn)∧(∃S,RdJ S W5 (.slice az m cz) r.lg)) ?sa2n ?_
   case sa2n=>
    have hw5:Wr (fun x=>x=w.heap.size+3) X (X.setCell ⟨w.heap.size+3,1,none⟩ (.int .i64 C)):=(Wr.setCell (p:=⟨w.heap.size+3,1,none⟩) (Wr.refl (fun x=>x=w.heap.size+3) _) rfl (.int .i64 C))
    refine ⟨⟨by simp [go_sem,d0],by simp [go_sem,d1],by simp [go_sem,d2],by simp [go_sem,d3],by simp [go_sem,d4],by simp [go_sem,d5],by simp [go_sem,d6],by simp [go_sem,d7],by simp [go_sem,d8]⟩,fun o=>?_,RC.out.wr hw5 (by omega) (fun b hb=>by omega),⟨_,((RdI_old HY.out).later BC.out).wr hw5 (fun _ b hb e=>by omega)⟩,⟨_,((RdJ_old HZ.out).later BC.out).wr hw5 (fun b hb e=>by omega)⟩⟩
    simp only [World.frozen?_setCell]
    exact DF.out o
   clear d0 d1 d2 d3 d4 d5 d6 d7 d8 n0 n1 n2 n3 n4 n5 n6 e0 e1 e2 e3 e4 e5 e6 e7 e8 DC NC RC DF BC
   rintro W5 ⟨N9,F9,R9,⟨_,hyd⟩,⟨_,hzd⟩⟩
   have HCp:=hide (copyRaftI (a) (b) (c) (d) hyd hzd HRo.out.1 HRo.out.2.1 HRo.out.2.2)
   obtain ⟨d0,d1,d2,d3,d4,d5,d6,d7,d8⟩:=id N9
   have hw5l:w.heap.size+3<W5.heap.size:=N9.lt
   go_wp2_with fail
   refine HCp.out.mono ?_
   rintro e w7 ⟨y7,z7,rfl,hb,ho⟩
   obtain ⟨a7,k7,g7,j7,hy7,hz7⟩:=ho.shape
   subst hy7
   subst hz7
   have D7:=hide (N9.later hb)
   have DF:Hid (∀o,w7.frozen? ⟨w.heap.size+3,o,none⟩=false):=fun o=>((bcell hb).2 _ _ N9.lt).trans (F9 o)
   have R7:=hide (R9.later hb)
   have HO7:=hide ho
   clear hb ho HCp N9 F9 R9 hyd hzd d0 d1 d2 d3 d4 d5 d6 d7 d8
   obtain ⟨d0,d1,d2,d3,d4,d5,d6,d7,d8⟩:=D7.out
   have e3:=DF.out 3
   have e4:=DF.out 4
   have e5:=DF.out 5
   have e6:=DF.out 6
   have e7:=DF.out 7
   have e8:=DF.out 8
   go_upto_region 14 with fail
   refine forget (fun W5=>Var9 W5 (w.heap.size+3) (.int .i64 0) (.int .i64 C) (.int .i64 0) (.int .i64 a) (.int .i64 b) (.int .i64 c) (.int .i64 d) (.slice a7 (r.sn).length k7) (.slice g7 (r.lg).length j7)∧(∀o,W5.frozen? ⟨w.heap.size+3,o,none⟩=false)∧Res9 w W5 (w.heap.size+2)∧(∃lo,w.heap.size+3<lo∧IvR lo W5.heap.size W5 (.slice a7 (r.sn).length k7) (.slice g7 (r.lg).length j7) (r.sn) (r.lg))) ?sb2n ?_
   case sb2n=>
    have hw5:Wr (fun x=>x=w.heap.size+3) w7 ((((((w7.setCell ⟨w.heap.size+3,3,none⟩ (.int .i64 a)).setCell ⟨w.heap.size+3,4,none⟩ (.int .i64 b)).setCell ⟨w.heap.size+3,5,none⟩ (.int .i64 c)).setCell ⟨w.heap.size+3,6,none⟩ (.int .i64 d)).setCell ⟨w.heap.size+3,7,none⟩ (.slice a7 (r.sn).length k7)).setCell ⟨w.heap.size+3,8,none⟩ (.slice g7 (r.lg).length j7)):=(Wr.setCell (p:=⟨w.heap.size+3,8,none⟩) (Wr.setCell (p:=⟨w.heap.size+3,7,none⟩) (Wr.setCell (p:=⟨w.heap.size+3,6,none⟩) (Wr.setCell (p:=⟨w.heap.size+3,5,none⟩) (Wr.setCell (p:=⟨w.heap.size+3,4,none⟩) (Wr.setCell (p:=⟨w.heap.size+3,3,none⟩) (Wr.refl (fun x=>x=w.heap.size+3) _) rfl (.int .i64 a)) rfl (.int .i64 b)) rfl (.int .i64 c)) rfl (.int .i64 d)) rfl (.slice a7 (r.sn).length k7)) rfl (.slice g7 (r.lg).length j7))
    refine ⟨⟨by simp [go_sem,d0],by simp [go_sem,d1],by simp [go_sem,d2],by simp [go_sem,d3],by simp [go_sem,d4],by simp [go_sem,d5],by simp [go_sem,d6],by simp [go_sem,d7],by simp [go_sem,d8]⟩,fun o=>?_,R7.out.wr hw5 (by omega) (fun b hb=>by omega),_,hw5l,(HO7.out.wr hw5 (fun b h1 h2 e=>by omega)).up (Nat.le_refl _) hw5.size⟩
    simp only [World.frozen?_setCell]
    exact DF.out o
   clear d0 d1 d2 d3 d4 d5 d6 d7 d8 e3 e4 e5 e6 e7 e8
   rintro W8 ⟨N8,_,R8,lo,hlo,I8⟩
   obtain ⟨d0,d1,d2,d3,d4,d5,d6,d7,d8⟩:=N8
   have HR8:=hide R8
   have HFn:=hide (ret_op (r:=w.heap.size+2) (x0:=.int .i64 0) (x1:=.int .i64 C) (x2:=.int .i64 0) (x3:=.int .i64 a) (x4:=.int .i64 b) (x5:=.int .i64 c) (x6:=.int .i64 d) R8.below R8.ge I8 (by omega))
   clear I8 R8
   obtain ⟨_,⟨c0,c1,c2,c3,c4,c5,c6,c7,c8⟩,F,_⟩:=HR8.out
   have f0:=F 0
   have f1:=F 1
   have f2:=F 2
   have f3:=F 3
   have f4:=F 4
   have f5:=F 5
   have f6:=F 6
   have f7:=F 7
   have f8:=F 8
   clear F
   go_wp2
   refine bodyPost_ret (v:=.agg #[.int .i64 0,.int .i64 C,.int .i64 0,.int .i64 a,.int .i64 b,.int .i64 c,.int .i64 d,.slice a7 (r.sn).length k7,.slice g7 (r.lg).length j7]) (by simp [results,Tryz.results24,go_sem,c0,c1,c2,c3,c4,c5,c6,c7,c8]) rfl ⟨_,_,rfl,HFn.out.1,HFn.out.2⟩
 ·skip
  obtain ⟨e1,e2,e3⟩:=dy3 (r:=r) h
  have HD:=hide (fun (w':World) (hb:Below w.heap.size w w')=>deed3 r o (hg.later hb) (hy.later hb) (hz.later hb) hcp (hu.later hb) (hv.later hb) hcv)
  rw [e1,e2,e3]
  clear e1 e2 e3
  have HN:=hide (room_tot (cpR_tot r o.vt o.sn))
  obtain ⟨C,hC⟩: ∃C,cpC r o.vt o.sn=C:=⟨_,rfl⟩
  obtain ⟨N,hN⟩: ∃N,cpR r o.vt o.sn=N:=⟨_,rfl⟩
  rw [hC,hN] at HD
  rw [hC,hN]
  rw [hN] at HN
  clear hC hN hy hz hu hv hcp hcv hg h0 h1
  by_cases hC0:C=0
  ·subst hC0
   simp only [if_true]
   generalize r.sn.length=l at*
   generalize r.lg.length=m at*
   generalize o.sn.length=l2 at*
   generalize o.lg.length=m2 at*
   generalize r.tm=a at*
   generalize r.vt=b at*
   generalize r.si=c at*
   generalize r.st=d at*
   generalize o.tm=a2 at*
   generalize o.vt=b2 at*
   generalize o.si=c2 at*
   generalize o.st=d2 at*
   subst h
   have BA0:=below_on (below_on (below_alloc w (.cells #[.int .i64 a,.int .i64 b,.int .i64 c,.int .i64 d,.slice ay l cy,.slice az m cz] 27)) (below_alloc _ (.cells #[.int .i64 3,.int .i64 b2,.int .i64 c2,.int .i64 d2,.slice au l2 cu,.slice av m2 cv] 29))) (below_alloc _ (.cells #[.int .i64 0,.int .i64 0,.int .i64 0,.int .i64 0,.int .i64 0,.int .i64 0,.int .i64 0,.slice none 0 0,.slice none 0 0] 33))
   have VR0:=((Var6_new w (.int .i64 a) (.int .i64 b) (.int .i64 c) (.int .i64 d) (.slice ay l cy) (.slice az m cz) 27).later (below_alloc _ (.cells #[.int .i64 3,.int .i64 b2,.int .i64 c2,.int .i64 d2,.slice au l2 cu,.slice av m2 cv] 29))).later (below_alloc _ (.cells #[.int .i64 0,.int .i64 0,.int .i64 0,.int .i64 0,.int .i64 0,.int .i64 0,.int .i64 0,.slice none 0 0,.slice none 0 0] 33))
   have VO0:=(Var6_new (w.alloc (.cells #[.int .i64 a,.int .i64 b,.int .i64 c,.int .i64 d,.slice ay l cy,.slice az m cz] 27)) (.int .i64 3) (.int .i64 b2) (.int .i64 c2) (.int .i64 d2) (.slice au l2 cu) (.slice av m2 cv) 29).later (below_alloc _ (.cells #[.int .i64 0,.int .i64 0,.int .i64 0,.int .i64 0,.int .i64 0,.int .i64 0,.int .i64 0,.slice none 0 0,.slice none 0 0] 33))
   rw [World.size_alloc] at VO0
   have RA0:=Res9.new (below_on (below_alloc w (.cells #[.int .i64 a,.int .i64 b,.int .i64 c,.int .i64 d,.slice ay l cy,.slice az m cz] 27)) (below_alloc _ (.cells #[.int .i64 3,.int .i64 b2,.int .i64 c2,.int .i64 d2,.slice au l2 cu,.slice av m2 cv] 29))) 33
   rw [World.size_alloc,World.size_alloc] at RA0
   obtain ⟨W3,hW3⟩: ∃x,(((w.alloc (.cells #[.int .i64 a,.int .i64 b,.int .i64 c,.int .i64 d,.slice ay l cy,.slice az m cz] 27)).alloc (.cells #[.int .i64 3,.int .i64 b2,.int .i64 c2,.int .i64 d2,.slice au l2 cu,.slice av m2 cv] 29)).alloc (.cells #[.int .i64 0,.int .i64 0,.int .i64 0,.int .i64 0,.int .i64 0,.int .i64 0,.int .i64 0,.slice none 0 0,.slice none 0 0] 33))=x:=⟨_,rfl⟩
   have hs3:W3.heap.size=w.heap.size+3:=by rw [← hW3];simp
   rw [hW3] at BA0 VR0 VO0 RA0
   have BA3:=hide BA0
   have VA3:=hide VR0
   have OA3:=hide VO0
   have RA3:=hide RA0
   clear BA0 VR0 VO0 RA0
   go_enter Tryz.func24,Tryz.ntmps24
   go_upto_region 1 with fail
   (try rw [hW3])
   clear hW3
   obtain ⟨v0,v1,v2,v3,v4,v5⟩:=VA3.out
   skip
   go_upto_region 2 with fail
   have hbd:=below_alloc W3 (.cells #[.int .i64 0,.int .i64 0,.int .i64 0,.int .i64 a,.int .i64 b,.int .i64 c,.int .i64 d,.slice ay l cy,.slice az m cz] 33)
   have BA:=hide (below_on BA3.out hbd)
   have VA:=hide (VA3.out.later hbd)
   have OA:=hide (OA3.out.later hbd)
   have RA:=hide (RA3.out.later hbd)
   have DA0:=Var9_new W3 (.int .i64 0) (.int .i64 0) (.int .i64 0) (.int .i64 a) (.int .i64 b) (.int .i64 c) (.int .i64 d) (.slice ay l cy) (.slice az m cz) 33
   rw [hs3] at DA0
   have DA:=hide DA0
   have DFA0: ∀o,(W3.alloc (.cells #[.int .i64 0,.int .i64 0,.int .i64 0,.int .i64 a,.int .i64 b,.int .i64 c,.int .i64 d,.slice ay l cy,.slice az m cz] 33)).frozen? ⟨w.heap.size+3,o,none⟩=false:=fun q=>by rw [← hs3];simp [go_sem]
   have DFA:=hide DFA0
   obtain ⟨W,hW⟩: ∃x,W3.alloc (.cells #[.int .i64 0,.int .i64 0,.int .i64 0,.int .i64 a,.int .i64 b,.int .i64 c,.int .i64 d,.slice ay l cy,.slice az m cz] 33)=x:=⟨_,rfl⟩
   have hsW:W.heap.size=w.heap.size+4:=by rw [← hW];simp [hs3]
   rw [hW] at BA VA OA RA DA DFA
   (try rw [hW])
   (try simp only [hs3])
   clear hbd DA0 DFA0 hW BA3 VA3 OA3 RA3 hs3 v0 v1 v2 v3 v4 v5
   obtain ⟨p0,p1,p2,p3,p4,p5⟩:=OA.out
   have HT:=hide (table3 W)
   go_wp2_with fail
   refine HT.out.mono ?_
   rintro e w1 ⟨rfl,hb⟩
   have BB:=hide (below_on BA.out hb)
   have VB:=hide (VA.out.later hb)
   have OB:=hide (OA.out.later hb)
   have RB:=hide (RA.out.later hb)
   have DB:=hide (DA.out.later hb)
   have DFB:Hid (∀o,w1.frozen? ⟨w.heap.size+3,o,none⟩=false):=fun o=>((bcell hb).2 _ _ DA.out.lt).trans (DFA.out o)
   have hz1:=hb.size
   clear hb p0 p1 p2 p3 p4 p5 VA OA RA DA DFA BA HT
   obtain ⟨v0,v1,v2,v3,v4,v5⟩:=VB.out
   obtain ⟨p0,p1,p2,p3,p4,p5⟩:=OB.out
   have HE:=hide (HD.out _ BB.out)
   have asC:=Tryz.asCh
   go_wp2_with fail
   clear asC
   refine HE.out.mono ?_
   rintro e w2 ⟨y1,z1,rfl,hb,ho⟩
   obtain ⟨a1,k1,g1,j1,rfl,rfl⟩:=ho.shape
   have hbn:=below_on hb (below_alloc w2 (.cells #[.int .i64 0,.int .i64 N.tm,.int .i64 N.vt,.int .i64 N.si,.int .i64 N.st,.slice a1 N.sn.length k1,.slice g1 N.lg.length j1] 79))
   have BC:=hide (below_on BB.out hbn)
   have RC:=hide (RB.out.later hbn)
   have DC:=hide (DB.out.later hbn)
   have DF:Hid (∀o,(w2.alloc (.cells #[.int .i64 0,.int .i64 N.tm,.int .i64 N.vt,.int .i64 N.si,.int .i64 N.st,.slice a1 N.sn.length k1,.slice g1 N.lg.length j1] 79)).frozen? ⟨w.heap.size+3,o,none⟩=false):=fun o=>((bcell hbn).2 _ _ DB.out.lt).trans (DFB.out o)
   have NC:=hide (Var7_new w2 (.int .i64 0) (.int .i64 N.tm) (.int .i64 N.vt) (.int .i64 N.si) (.int .i64 N.st) (.slice a1 N.sn.length k1) (.slice g1 N.lg.length j1) 79)
   have hz2:=hb.size
   have IC:=hide (ho.later (below_alloc w2 (.cells #[.int .i64 0,.int .i64 N.tm,.int .i64 N.vt,.int .i64 N.si,.int .i64 N.st,.slice a1 N.sn.length k1,.slice g1 N.lg.length j1] 79)))
   clear ho
   clear hb v0 v1 v2 v3 v4 v5 p0 p1 p2 p3 p4 p5 VB OB RB DB DFB BB HE HD
   go_upto_region 6 with fail
   obtain ⟨X,hX⟩: ∃x,w2.alloc (.cells #[.int .i64 0,.int .i64 N.tm,.int .i64 N.vt,.int .i64 N.si,.int .i64 N.st,.slice a1 N.sn.length k1,.slice g1 N.lg.length j1] 79)=x:=⟨_,rfl⟩
   rw [hX] at BC RC DC DF NC IC
   (try rw [hX])
   clear hbn hX
   obtain ⟨d0,d1,d2,d3,d4,d5,d6,d7,d8⟩:=DC.out
   obtain ⟨n0,n1,n2,n3,n4,n5,n6⟩:=NC.out
   have e0:=DF.out 0
   have e1:=DF.out 1
   have e2:=DF.out 2
   have e3:=DF.out 3
   have e4:=DF.out 4
   have e5:=DF.out 5
   have e6:=DF.out 6
   have e7:=DF.out 7
   have e8:=DF.out 8
   go_upto_region 13 with fail
   refine forget (fun W5=>Var9 W5 (w.heap.size+3) (.int .i64 0) (.int .i64 0) (.int .i64 0) (.int .i64 N.tm) (.int .i64 N.vt) (.int .i64 N.si) (.int .i64 N.st) (.slice a1 N.sn.length k1) (.slice g1 N.lg.length j1)∧(∀o,W5.frozen? ⟨w.heap.size+3,o,none⟩=false)∧Res9 w W5 (w.heap.size+2)∧(∃S,RdI S W5 (.slice a1 N.sn.length k1) N.sn)∧(∃S,RdJ S W5 (.slice g1 N.lg.length j1) N.lg)) ?sa3y ?_
   case sa3y=>
    have hw5:Wr (fun x=>x=w.heap.size+3) X (((((((X.setCell ⟨w.heap.size+3,1,none⟩ (.int .i64 0)).setCell ⟨w.heap.size+3,3,none⟩ (.int .i64 N.tm)).setCell ⟨w.heap.size+3,4,none⟩ (.int .i64 N.vt)).setCell ⟨w.heap.size+3,5,none⟩ (.int .i64 N.si)).setCell ⟨w.heap.size+3,6,none⟩ (.int .i64 N.st)).setCell ⟨w.heap.size+3,7,none⟩ (.slice a1 N.sn.length k1)).setCell ⟨w.heap.size+3,8,none⟩ (.slice g1 N.lg.length j1)):=(Wr.setCell (p:=⟨w.heap.size+3,8,none⟩) (Wr.setCell (p:=⟨w.heap.size+3,7,none⟩) (Wr.setCell (p:=⟨w.heap.size+3,6,none⟩) (Wr.setCell (p:=⟨w.heap.size+3,5,none⟩) (Wr.setCell (p:=⟨w.heap.size+3,4,none⟩) (Wr.setCell (p:=⟨w.heap.size+3,3,none⟩) (Wr.setCell (p:=⟨w.heap.size+3,1,none⟩) (Wr.refl (fun x=>x=w.heap.size+3) _) rfl (.int .i64 0)) rfl (.int .i64 N.tm)) rfl (.int .i64 N.vt)) rfl (.int .i64 N.si)) rfl (.int .i64 N.st)) rfl (.slice a1 N.sn.length k1)) rfl (.slice g1 N.lg.length j1))
    refine ⟨⟨by simp [go_sem,d0],by simp [go_sem,d1],by simp [go_sem,d2],by simp [go_sem,d3],by simp [go_sem,d4],by simp [go_sem,d5],by simp [go_sem,d6],by simp [go_sem,d7],by simp [go_sem,d8]⟩,fun o=>?_,RC.out.wr hw5 (by omega) (fun b hb=>by omega),⟨_,IC.out.rdI.wr hw5 (fun _ b hb e=>by have:=hb.1;omega)⟩,⟨_,IC.out.rdJ.wr hw5 (fun b hb e=>by have:=hb.1;omega)⟩⟩
    simp only [World.frozen?_setCell]
    exact DF.out o
   clear d0 d1 d2 d3 d4 d5 d6 d7 d8 n0 n1 n2 n3 n4 n5 n6 e0 e1 e2 e3 e4 e5 e6 e7 e8 DC NC RC DF BC
   rintro W5 ⟨N9,F9,R9,⟨_,hyd⟩,⟨_,hzd⟩⟩
   have HCp:=hide (copyRaftI (N.tm) (N.vt) (N.si) (N.st) hyd hzd HN.out.1 HN.out.2.1 HN.out.2.2)
   obtain ⟨d0,d1,d2,d3,d4,d5,d6,d7,d8⟩:=id N9
   have hw5l:w.heap.size+3<W5.heap.size:=N9.lt
   go_wp2_with fail
   refine HCp.out.mono ?_
   rintro e w7 ⟨y7,z7,rfl,hb,ho⟩
   obtain ⟨a7,k7,g7,j7,hy7,hz7⟩:=ho.shape
   subst hy7
   subst hz7
   have D7:=hide (N9.later hb)
   have DF:Hid (∀o,w7.frozen? ⟨w.heap.size+3,o,none⟩=false):=fun o=>((bcell hb).2 _ _ N9.lt).trans (F9 o)
   have R7:=hide (R9.later hb)
   have HO7:=hide ho
   clear hb ho HCp N9 F9 R9 hyd hzd d0 d1 d2 d3 d4 d5 d6 d7 d8
   obtain ⟨d0,d1,d2,d3,d4,d5,d6,d7,d8⟩:=D7.out
   have e3:=DF.out 3
   have e4:=DF.out 4
   have e5:=DF.out 5
   have e6:=DF.out 6
   have e7:=DF.out 7
   have e8:=DF.out 8
   go_upto_region 14 with fail
   refine forget (fun W5=>Var9 W5 (w.heap.size+3) (.int .i64 0) (.int .i64 0) (.int .i64 0) (.int .i64 N.tm) (.int .i64 N.vt) (.int .i64 N.si) (.int .i64 N.st) (.slice a7 (N.sn).length k7) (.slice g7 (N.lg).length j7)∧(∀o,W5.frozen? ⟨w.heap.size+3,o,none⟩=false)∧Res9 w W5 (w.heap.size+2)∧(∃lo,w.heap.size+3<lo∧IvR lo W5.heap.size W5 (.slice a7 (N.sn).length k7) (.slice g7 (N.lg).length j7) (N.sn) (N.lg))) ?sb3y ?_
   case sb3y=>
    have hw5:Wr (fun x=>x=w.heap.size+3) w7 ((((((w7.setCell ⟨w.heap.size+3,3,none⟩ (.int .i64 N.tm)).setCell ⟨w.heap.size+3,4,none⟩ (.int .i64 N.vt)).setCell ⟨w.heap.size+3,5,none⟩ (.int .i64 N.si)).setCell ⟨w.heap.size+3,6,none⟩ (.int .i64 N.st)).setCell ⟨w.heap.size+3,7,none⟩ (.slice a7 (N.sn).length k7)).setCell ⟨w.heap.size+3,8,none⟩ (.slice g7 (N.lg).length j7)):=(Wr.setCell (p:=⟨w.heap.size+3,8,none⟩) (Wr.setCell (p:=⟨w.heap.size+3,7,none⟩) (Wr.setCell (p:=⟨w.heap.size+3,6,none⟩) (Wr.setCell (p:=⟨w.heap.size+3,5,none⟩) (Wr.setCell (p:=⟨w.heap.size+3,4,none⟩) (Wr.setCell (p:=⟨w.heap.size+3,3,none⟩) (Wr.refl (fun x=>x=w.heap.size+3) _) rfl (.int .i64 N.tm)) rfl (.int .i64 N.vt)) rfl (.int .i64 N.si)) rfl (.int .i64 N.st)) rfl (.slice a7 (N.sn).length k7)) rfl (.slice g7 (N.lg).length j7))
    refine ⟨⟨by simp [go_sem,d0],by simp [go_sem,d1],by simp [go_sem,d2],by simp [go_sem,d3],by simp [go_sem,d4],by simp [go_sem,d5],by simp [go_sem,d6],by simp [go_sem,d7],by simp [go_sem,d8]⟩,fun o=>?_,R7.out.wr hw5 (by omega) (fun b hb=>by omega),_,hw5l,(HO7.out.wr hw5 (fun b h1 h2 e=>by omega)).up (Nat.le_refl _) hw5.size⟩
    simp only [World.frozen?_setCell]
    exact DF.out o
   clear d0 d1 d2 d3 d4 d5 d6 d7 d8 e3 e4 e5 e6 e7 e8
   rintro W8 ⟨N8,_,R8,lo,hlo,I8⟩
   obtain ⟨d0,d1,d2,d3,d4,d5,d6,d7,d8⟩:=N8
   have HR8:=hide R8
   have HFn:=hide (ret_op (r:=w.heap.size+2) (x0:=.int .i64 0) (x1:=.int .i64 0) (x2:=.int .i64 0) (x3:=.int .i64 N.tm) (x4:=.int .i64 N.vt) (x5:=.int .i64 N.si) (x6:=.int .i64 N.st) R8.below R8.ge I8 (by omega))
   clear I8 R8
   obtain ⟨_,⟨c0,c1,c2,c3,c4,c5,c6,c7,c8⟩,F,_⟩:=HR8.out
   have f0:=F 0
   have f1:=F 1
   have f2:=F 2
   have f3:=F 3
   have f4:=F 4
   have f5:=F 5
   have f6:=F 6
   have f7:=F 7
   have f8:=F 8
   clear F
   go_wp2
   refine bodyPost_ret (v:=.agg #[.int .i64 0,.int .i64 0,.int .i64 0,.int .i64 N.tm,.int .i64 N.vt,.int .i64 N.si,.int .i64 N.st,.slice a7 (N.sn).length k7,.slice g7 (N.lg).length j7]) (by simp [results,Tryz.results24,go_sem,c0,c1,c2,c3,c4,c5,c6,c7,c8]) rfl ⟨_,_,rfl,HFn.out.1,HFn.out.2⟩
  ·simp only [if_neg hC0]
   have hCb:(C==0)=false:=by simpa using hC0
   have hCc:(C !=0)=true:=by simp [hC0]
   generalize r.sn.length=l at*
   generalize r.lg.length=m at*
   generalize o.sn.length=l2 at*
   generalize o.lg.length=m2 at*
   generalize r.tm=a at*
   generalize r.vt=b at*
   generalize r.si=c at*
   generalize r.st=d at*
   generalize o.tm=a2 at*
   generalize o.vt=b2 at*
   generalize o.si=c2 at*
   generalize o.st=d2 at*
   subst h
   have BA0:=below_on (below_on (below_alloc w (.cells #[.int .i64 a,.int .i64 b,.int .i64 c,.int .i64 d,.slice ay l cy,.slice az m cz] 27)) (below_alloc _ (.cells #[.int .i64 3,.int .i64 b2,.int .i64 c2,.int .i64 d2,.slice au l2 cu,.slice av m2 cv] 29))) (below_alloc _ (.cells #[.int .i64 0,.int .i64 0,.int .i64 0,.int .i64 0,.int .i64 0,.int .i64 0,.int .i64 0,.slice none 0 0,.slice none 0 0] 33))
   have VR0:=((Var6_new w (.int .i64 a) (.int .i64 b) (.int .i64 c) (.int .i64 d) (.slice ay l cy) (.slice az m cz) 27).later (below_alloc _ (.cells #[.int .i64 3,.int .i64 b2,.int .i64 c2,.int .i64 d2,.slice au l2 cu,.slice av m2 cv] 29))).later (below_alloc _ (.cells #[.int .i64 0,.int .i64 0,.int .i64 0,.int .i64 0,.int .i64 0,.int .i64 0,.int .i64 0,.slice none 0 0,.slice none 0 0] 33))
   have VO0:=(Var6_new (w.alloc (.cells #[.int .i64 a,.int .i64 b,.int .i64 c,.int .i64 d,.slice ay l cy,.slice az m cz] 27)) (.int .i64 3) (.int .i64 b2) (.int .i64 c2) (.int .i64 d2) (.slice au l2 cu) (.slice av m2 cv) 29).later (below_alloc _ (.cells #[.int .i64 0,.int .i64 0,.int .i64 0,.int .i64 0,.int .i64 0,.int .i64 0,.int .i64 0,.slice none 0 0,.slice none 0 0] 33))
   rw [World.size_alloc] at VO0
   have RA0:=Res9.new (below_on (below_alloc w (.cells #[.int .i64 a,.int .i64 b,.int .i64 c,.int .i64 d,.slice ay l cy,.slice az m cz] 27)) (below_alloc _ (.cells #[.int .i64 3,.int .i64 b2,.int .i64 c2,.int .i64 d2,.slice au l2 cu,.slice av m2 cv] 29))) 33
   rw [World.size_alloc,World.size_alloc] at RA0
   obtain ⟨W3,hW3⟩: ∃x,(((w.alloc (.cells #[.int .i64 a,.int .i64 b,.int .i64 c,.int .i64 d,.slice ay l cy,.slice az m cz] 27)).alloc (.cells #[.int .i64 3,.int .i64 b2,.int .i64 c2,.int .i64 d2,.slice au l2 cu,.slice av m2 cv] 29)).alloc (.cells #[.int .i64 0,.int .i64 0,.int .i64 0,.int .i64 0,.int .i64 0,.int .i64 0,.int .i64 0,.slice none 0 0,.slice none 0 0] 33))=x:=⟨_,rfl⟩
   have hs3:W3.heap.size=w.heap.size+3:=by rw [← hW3];simp
   rw [hW3] at BA0 VR0 VO0 RA0
   have BA3:=hide BA0
   have VA3:=hide VR0
   have OA3:=hide VO0
   have RA3:=hide RA0
   clear BA0 VR0 VO0 RA0
   go_enter Tryz.func24,Tryz.ntmps24
   go_upto_region 1 with fail
   (try rw [hW3])
   clear hW3
   obtain ⟨v0,v1,v2,v3,v4,v5⟩:=VA3.out
   skip
   go_upto_region 2 with fail
   have hbd:=below_alloc W3 (.cells #[.int .i64 0,.int .i64 0,.int .i64 0,.int .i64 a,.int .i64 b,.int .i64 c,.int .i64 d,.slice ay l cy,.slice az m cz] 33)
   have BA:=hide (below_on BA3.out hbd)
   have VA:=hide (VA3.out.later hbd)
   have OA:=hide (OA3.out.later hbd)
   have RA:=hide (RA3.out.later hbd)
   have DA0:=Var9_new W3 (.int .i64 0) (.int .i64 0) (.int .i64 0) (.int .i64 a) (.int .i64 b) (.int .i64 c) (.int .i64 d) (.slice ay l cy) (.slice az m cz) 33
   rw [hs3] at DA0
   have DA:=hide DA0
   have DFA0: ∀o,(W3.alloc (.cells #[.int .i64 0,.int .i64 0,.int .i64 0,.int .i64 a,.int .i64 b,.int .i64 c,.int .i64 d,.slice ay l cy,.slice az m cz] 33)).frozen? ⟨w.heap.size+3,o,none⟩=false:=fun q=>by rw [← hs3];simp [go_sem]
   have DFA:=hide DFA0
   obtain ⟨W,hW⟩: ∃x,W3.alloc (.cells #[.int .i64 0,.int .i64 0,.int .i64 0,.int .i64 a,.int .i64 b,.int .i64 c,.int .i64 d,.slice ay l cy,.slice az m cz] 33)=x:=⟨_,rfl⟩
   have hsW:W.heap.size=w.heap.size+4:=by rw [← hW];simp [hs3]
   rw [hW] at BA VA OA RA DA DFA
   (try rw [hW])
   (try simp only [hs3])
   clear hbd DA0 DFA0 hW BA3 VA3 OA3 RA3 hs3 v0 v1 v2 v3 v4 v5
   obtain ⟨p0,p1,p2,p3,p4,p5⟩:=OA.out
   have HT:=hide (table3 W)
   go_wp2_with fail
   refine HT.out.mono ?_
   rintro e w1 ⟨rfl,hb⟩
   have BB:=hide (below_on BA.out hb)
   have VB:=hide (VA.out.later hb)
   have OB:=hide (OA.out.later hb)
   have RB:=hide (RA.out.later hb)
   have DB:=hide (DA.out.later hb)
   have DFB:Hid (∀o,w1.frozen? ⟨w.heap.size+3,o,none⟩=false):=fun o=>((bcell hb).2 _ _ DA.out.lt).trans (DFA.out o)
   have hz1:=hb.size
   clear hb p0 p1 p2 p3 p4 p5 VA OA RA DA DFA BA HT
   obtain ⟨v0,v1,v2,v3,v4,v5⟩:=VB.out
   obtain ⟨p0,p1,p2,p3,p4,p5⟩:=OB.out
   have HE:=hide (HD.out _ BB.out)
   have asC:=Tryz.asCh
   go_wp2_with fail
   clear asC
   refine HE.out.mono ?_
   rintro e w2 ⟨y1,z1,rfl,hb,ho⟩
   obtain ⟨a1,k1,g1,j1,rfl,rfl⟩:=ho.shape
   have hbn:=below_on hb (below_alloc w2 (.cells #[.int .i64 C,.int .i64 N.tm,.int .i64 N.vt,.int .i64 N.si,.int .i64 N.st,.slice a1 N.sn.length k1,.slice g1 N.lg.length j1] 79))
   have BC:=hide (below_on BB.out hbn)
   have RC:=hide (RB.out.later hbn)
   have DC:=hide (DB.out.later hbn)
   have DF:Hid (∀o,(w2.alloc (.cells #[.int .i64 C,.int .i64 N.tm,.int .i64 N.vt,.int .i64 N.si,.int .i64 N.st,.slice a1 N.sn.length k1,.slice g1 N.lg.length j1] 79)).frozen? ⟨w.heap.size+3,o,none⟩=false):=fun o=>((bcell hbn).2 _ _ DB.out.lt).trans (DFB.out o)
   have NC:=hide (Var7_new w2 (.int .i64 C) (.int .i64 N.tm) (.int .i64 N.vt) (.int .i64 N.si) (.int .i64 N.st) (.slice a1 N.sn.length k1) (.slice g1 N.lg.length j1) 79)
   have hz2:=hb.size
   have IC:=hide (ho.later (below_alloc w2 (.cells #[.int .i64 C,.int .i64 N.tm,.int .i64 N.vt,.int .i64 N.si,.int .i64 N.st,.slice a1 N.sn.length k1,.slice g1 N.lg.length j1] 79)))
   clear ho
   clear hb v0 v1 v2 v3 v4 v5 p0 p1 p2 p3 p4 p5 VB OB RB DB DFB BB HE HD
   go_upto_region 6 with fail
   obtain ⟨X,hX⟩: ∃x,w2.alloc (.cells #[.int .i64 C,.int .i64 N.tm,.int .i64 N.vt,.int .i64 N.si,.int .i64 N.st,.slice a1 N.sn.length k1,.slice g1 N.lg.length j1] 79)=x:=⟨_,rfl⟩
   rw [hX] at BC RC DC DF NC IC
   (try rw [hX])
   clear hbn hX
   obtain ⟨d0,d1,d2,d3,d4,d5,d6,d7,d8⟩:=DC.out
   obtain ⟨n0,n1,n2,n3,n4,n5,n6⟩:=NC.out
   have e0:=DF.out 0
   have e1:=DF.out 1
   have e2:=DF.out 2
   have e3:=DF.out 3
   have e4:=DF.out 4
   have e5:=DF.out 5
   have e6:=DF.out 6
   have e7:=DF.out 7
   have e8:=DF.out 8
   go_upto_region 13 with fail
   refine forget (fun W5=>Var9 W5 (w.heap.size+3) (.int .i64 0) (.int .i64 C) (.int .i64 0) (.int .i64 a) (.int .i64 b) (.int .i64 c) (.int .i64 d) (.slice ay l cy) (.slice az m cz)∧(∀o,W5.frozen? ⟨w.heap.size+3,o,none⟩=false)∧Res9 w W5 (w.heap.size+2)∧(∃S,RdI S W5 (.slice ay l cy) r.sn)∧(∃S,RdJ S W5 (.slice az m cz) r.lg)) ?sa3n ?_
   case sa3n=>
    have hw5:Wr (fun x=>x=w.heap.size+3) X (X.setCell ⟨w.heap.size+3,1,none⟩ (.int .i64 C)):=(Wr.setCell (p:=⟨w.heap.size+3,1,none⟩) (Wr.refl (fun x=>x=w.heap.size+3) _) rfl (.int .i64 C))
    refine ⟨⟨by simp [go_sem,d0],by simp [go_sem,d1],by simp [go_sem,d2],by simp [go_sem,d3],by simp [go_sem,d4],by simp [go_sem,d5],by simp [go_sem,d6],by simp [go_sem,d7],by simp [go_sem,d8]⟩,fun o=>?_,RC.out.wr hw5 (by omega) (fun b hb=>by omega),⟨_,((RdI_old HY.out).later BC.out).wr hw5 (fun _ b hb e=>by omega)⟩,⟨_,((RdJ_old HZ.out).later BC.out).wr hw5 (fun b hb e=>by omega)⟩⟩
    simp only [World.frozen?_setCell]
    exact DF.out o
   clear d0 d1 d2 d3 d4 d5 d6 d7 d8 n0 n1 n2 n3 n4 n5 n6 e0 e1 e2 e3 e4 e5 e6 e7 e8 DC NC RC DF BC
   rintro W5 ⟨N9,F9,R9,⟨_,hyd⟩,⟨_,hzd⟩⟩
   have HCp:=hide (copyRaftI (a) (b) (c) (d) hyd hzd HRo.out.1 HRo.out.2.1 HRo.out.2.2)
   obtain ⟨d0,d1,d2,d3,d4,d5,d6,d7,d8⟩:=id N9
   have hw5l:w.heap.size+3<W5.heap.size:=N9.lt
   go_wp2_with fail
   refine HCp.out.mono ?_
   rintro e w7 ⟨y7,z7,rfl,hb,ho⟩
   obtain ⟨a7,k7,g7,j7,hy7,hz7⟩:=ho.shape
   subst hy7
   subst hz7
   have D7:=hide (N9.later hb)
   have DF:Hid (∀o,w7.frozen? ⟨w.heap.size+3,o,none⟩=false):=fun o=>((bcell hb).2 _ _ N9.lt).trans (F9 o)
   have R7:=hide (R9.later hb)
   have HO7:=hide ho
   clear hb ho HCp N9 F9 R9 hyd hzd d0 d1 d2 d3 d4 d5 d6 d7 d8
   obtain ⟨d0,d1,d2,d3,d4,d5,d6,d7,d8⟩:=D7.out
   have e3:=DF.out 3
   have e4:=DF.out 4
   have e5:=DF.out 5
   have e6:=DF.out 6
   have e7:=DF.out 7
   have e8:=DF.out 8
   go_upto_region 14 with fail
   refine forget (fun W5=>Var9 W5 (w.heap.size+3) (.int .i64 0) (.int .i64 C) (.int .i64 0) (.int .i64 a) (.int .i64 b) (.int .i64 c) (.int .i64 d) (.slice a7 (r.sn).length k7) (.slice g7 (r.lg).length j7)∧(∀o,W5.frozen? ⟨w.heap.size+3,o,none⟩=false)∧Res9 w W5 (w.heap.size+2)∧(∃lo,w.heap.size+3<lo∧IvR lo W5.heap.size W5 (.slice a7 (r.sn).length k7) (.slice g7 (r.lg).length j7) (r.sn) (r.lg))) ?sb3n ?_
   case sb3n=>
    have hw5:Wr (fun x=>x=w.heap.size+3) w7 ((((((w7.setCell ⟨w.heap.size+3,3,none⟩ (.int .i64 a)).setCell ⟨w.heap.size+3,4,none⟩ (.int .i64 b)).setCell ⟨w.heap.size+3,5,none⟩ (.int .i64 c)).setCell ⟨w.heap.size+3,6,none⟩ (.int .i64 d)).setCell ⟨w.heap.size+3,7,none⟩ (.slice a7 (r.sn).length k7)).setCell ⟨w.heap.size+3,8,none⟩ (.slice g7 (r.lg).length j7)):=(Wr.setCell (p:=⟨w.heap.size+3,8,none⟩) (Wr.setCell (p:=⟨w.heap.size+3,7,none⟩) (Wr.setCell (p:=⟨w.heap.size+3,6,none⟩) (Wr.setCell (p:=⟨w.heap.size+3,5,none⟩) (Wr.setCell (p:=⟨w.heap.size+3,4,none⟩) (Wr.setCell (p:=⟨w.heap.size+3,3,none⟩) (Wr.refl (fun x=>x=w.heap.size+3) _) rfl (.int .i64 a)) rfl (.int .i64 b)) rfl (.int .i64 c)) rfl (.int .i64 d)) rfl (.slice a7 (r.sn).length k7)) rfl (.slice g7 (r.lg).length j7))
    refine ⟨⟨by simp [go_sem,d0],by simp [go_sem,d1],by simp [go_sem,d2],by simp [go_sem,d3],by simp [go_sem,d4],by simp [go_sem,d5],by simp [go_sem,d6],by simp [go_sem,d7],by simp [go_sem,d8]⟩,fun o=>?_,R7.out.wr hw5 (by omega) (fun b hb=>by omega),_,hw5l,(HO7.out.wr hw5 (fun b h1 h2 e=>by omega)).up (Nat.le_refl _) hw5.size⟩
    simp only [World.frozen?_setCell]
    exact DF.out o
   clear d0 d1 d2 d3 d4 d5 d6 d7 d8 e3 e4 e5 e6 e7 e8
   rintro W8 ⟨N8,_,R8,lo,hlo,I8⟩
   obtain ⟨d0,d1,d2,d3,d4,d5,d6,d7,d8⟩:=N8
   have HR8:=hide R8
   have HFn:=hide (ret_op (r:=w.heap.size+2) (x0:=.int .i64 0) (x1:=.int .i64 C) (x2:=.int .i64 0) (x3:=.int .i64 a) (x4:=.int .i64 b) (x5:=.int .i64 c) (x6:=.int .i64 d) R8.below R8.ge I8 (by omega))
   clear I8 R8
   obtain ⟨_,⟨c0,c1,c2,c3,c4,c5,c6,c7,c8⟩,F,_⟩:=HR8.out
   have f0:=F 0
   have f1:=F 1
   have f2:=F 2
   have f3:=F 3
   have f4:=F 4
   have f5:=F 5
   have f6:=F 6
   have f7:=F 7
   have f8:=F 8
   clear F
   go_wp2
   refine bodyPost_ret (v:=.agg #[.int .i64 0,.int .i64 C,.int .i64 0,.int .i64 a,.int .i64 b,.int .i64 c,.int .i64 d,.slice a7 (r.sn).length k7,.slice g7 (r.lg).length j7]) (by simp [results,Tryz.results24,go_sem,c0,c1,c2,c3,c4,c5,c6,c7,c8]) rfl ⟨_,_,rfl,HFn.out.1,HFn.out.2⟩
 ·skip
  obtain ⟨e1,e2,e3⟩:=dy4 (r:=r) h
  have HD:=hide (fun (w':World) (hb:Below w.heap.size w w')=>deed4 r o (hg.later hb) (hy.later hb) (hz.later hb) hcp (hu.later hb) (hv.later hb) hcv)
  rw [e1,e2,e3]
  clear e1 e2 e3
  have HN:=hide (room_tot (inR_tot r o.vt o.si o.sn))
  obtain ⟨C,hC⟩: ∃C,inC r o.vt o.si o.sn=C:=⟨_,rfl⟩
  obtain ⟨N,hN⟩: ∃N,inR r o.vt o.si o.sn=N:=⟨_,rfl⟩
  rw [hC,hN] at HD
  rw [hC,hN]
  rw [hN] at HN
  clear hC hN hy hz hu hv hcp hcv hg h0 h1
  by_cases hC0:C=0
  ·subst hC0
   simp only [if_true]
   generalize r.sn.length=l at*
   generalize r.lg.length=m at*
   generalize o.sn.length=l2 at*
   generalize o.lg.length=m2 at*
   generalize r.tm=a at*
   generalize r.vt=b at*
   generalize r.si=c at*
   generalize r.st=d at*
   generalize o.tm=a2 at*
   generalize o.vt=b2 at*
   generalize o.si=c2 at*
   generalize o.st=d2 at*
   subst h
   have BA0:=below_on (below_on (below_alloc w (.cells #[.int .i64 a,.int .i64 b,.int .i64 c,.int .i64 d,.slice ay l cy,.slice az m cz] 27)) (below_alloc _ (.cells #[.int .i64 4,.int .i64 b2,.int .i64 c2,.int .i64 d2,.slice au l2 cu,.slice av m2 cv] 29))) (below_alloc _ (.cells #[.int .i64 0,.int .i64 0,.int .i64 0,.int .i64 0,.int .i64 0,.int .i64 0,.int .i64 0,.slice none 0 0,.slice none 0 0] 33))
   have VR0:=((Var6_new w (.int .i64 a) (.int .i64 b) (.int .i64 c) (.int .i64 d) (.slice ay l cy) (.slice az m cz) 27).later (below_alloc _ (.cells #[.int .i64 4,.int .i64 b2,.int .i64 c2,.int .i64 d2,.slice au l2 cu,.slice av m2 cv] 29))).later (below_alloc _ (.cells #[.int .i64 0,.int .i64 0,.int .i64 0,.int .i64 0,.int .i64 0,.int .i64 0,.int .i64 0,.slice none 0 0,.slice none 0 0] 33))
   have VO0:=(Var6_new (w.alloc (.cells #[.int .i64 a,.int .i64 b,.int .i64 c,.int .i64 d,.slice ay l cy,.slice az m cz] 27)) (.int .i64 4) (.int .i64 b2) (.int .i64 c2) (.int .i64 d2) (.slice au l2 cu) (.slice av m2 cv) 29).later (below_alloc _ (.cells #[.int .i64 0,.int .i64 0,.int .i64 0,.int .i64 0,.int .i64 0,.int .i64 0,.int .i64 0,.slice none 0 0,.slice none 0 0] 33))
   rw [World.size_alloc] at VO0
   have RA0:=Res9.new (below_on (below_alloc w (.cells #[.int .i64 a,.int .i64 b,.int .i64 c,.int .i64 d,.slice ay l cy,.slice az m cz] 27)) (below_alloc _ (.cells #[.int .i64 4,.int .i64 b2,.int .i64 c2,.int .i64 d2,.slice au l2 cu,.slice av m2 cv] 29))) 33
   rw [World.size_alloc,World.size_alloc] at RA0
   obtain ⟨W3,hW3⟩: ∃x,(((w.alloc (.cells #[.int .i64 a,.int .i64 b,.int .i64 c,.int .i64 d,.slice ay l cy,.slice az m cz] 27)).alloc (.cells #[.int .i64 4,.int .i64 b2,.int .i64 c2,.int .i64 d2,.slice au l2 cu,.slice av m2 cv] 29)).alloc (.cells #[.int .i64 0,.int .i64 0,.int .i64 0,.int .i64 0,.int .i64 0,.int .i64 0,.int .i64 0,.slice none 0 0,.slice none 0 0] 33))=x:=⟨_,rfl⟩
   have hs3:W3.heap.size=w.heap.size+3:=by rw [← hW3];simp
   rw [hW3] at BA0 VR0 VO0 RA0
   have BA3:=hide BA0
   have VA3:=hide VR0
   have OA3:=hide VO0
   have RA3:=hide RA0
   clear BA0 VR0 VO0 RA0
   go_enter Tryz.func24,Tryz.ntmps24
   go_upto_region 1 with fail
   (try rw [hW3])
   clear hW3
   obtain ⟨v0,v1,v2,v3,v4,v5⟩:=VA3.out
   skip
   go_upto_region 2 with fail
   have hbd:=below_alloc W3 (.cells #[.int .i64 0,.int .i64 0,.int .i64 0,.int .i64 a,.int .i64 b,.int .i64 c,.int .i64 d,.slice ay l cy,.slice az m cz] 33)
   have BA:=hide (below_on BA3.out hbd)
   have VA:=hide (VA3.out.later hbd)
   have OA:=hide (OA3.out.later hbd)
   have RA:=hide (RA3.out.later hbd)
   have DA0:=Var9_new W3 (.int .i64 0) (.int .i64 0) (.int .i64 0) (.int .i64 a) (.int .i64 b) (.int .i64 c) (.int .i64 d) (.slice ay l cy) (.slice az m cz) 33
   rw [hs3] at DA0
   have DA:=hide DA0
   have DFA0: ∀o,(W3.alloc (.cells #[.int .i64 0,.int .i64 0,.int .i64 0,.int .i64 a,.int .i64 b,.int .i64 c,.int .i64 d,.slice ay l cy,.slice az m cz] 33)).frozen? ⟨w.heap.size+3,o,none⟩=false:=fun q=>by rw [← hs3];simp [go_sem]
   have DFA:=hide DFA0
   obtain ⟨W,hW⟩: ∃x,W3.alloc (.cells #[.int .i64 0,.int .i64 0,.int .i64 0,.int .i64 a,.int .i64 b,.int .i64 c,.int .i64 d,.slice ay l cy,.slice az m cz] 33)=x:=⟨_,rfl⟩
   have hsW:W.heap.size=w.heap.size+4:=by rw [← hW];simp [hs3]
   rw [hW] at BA VA OA RA DA DFA
   (try rw [hW])
   (try simp only [hs3])
   clear hbd DA0 DFA0 hW BA3 VA3 OA3 RA3 hs3 v0 v1 v2 v3 v4 v5
   obtain ⟨p0,p1,p2,p3,p4,p5⟩:=OA.out
   have HT:=hide (table4 W)
   go_wp2_with fail
   refine HT.out.mono ?_
   rintro e w1 ⟨rfl,hb⟩
   have BB:=hide (below_on BA.out hb)
   have VB:=hide (VA.out.later hb)
   have OB:=hide (OA.out.later hb)
   have RB:=hide (RA.out.later hb)
   have DB:=hide (DA.out.later hb)
   have DFB:Hid (∀o,w1.frozen? ⟨w.heap.size+3,o,none⟩=false):=fun o=>((bcell hb).2 _ _ DA.out.lt).trans (DFA.out o)
   have hz1:=hb.size
   clear hb p0 p1 p2 p3 p4 p5 VA OA RA DA DFA BA HT
   obtain ⟨v0,v1,v2,v3,v4,v5⟩:=VB.out
   obtain ⟨p0,p1,p2,p3,p4,p5⟩:=OB.out
   have HE:=hide (HD.out _ BB.out)
   have asC:=Tryz.asCh
   go_wp2_with fail
   clear asC
   refine HE.out.mono ?_
   rintro e w2 ⟨y1,z1,rfl,hb,ho⟩
   obtain ⟨a1,k1,g1,j1,rfl,rfl⟩:=ho.shape
   have hbn:=below_on hb (below_alloc w2 (.cells #[.int .i64 0,.int .i64 N.tm,.int .i64 N.vt,.int .i64 N.si,.int .i64 N.st,.slice a1 N.sn.length k1,.slice g1 N.lg.length j1] 79))
   have BC:=hide (below_on BB.out hbn)
   have RC:=hide (RB.out.later hbn)
   have DC:=hide (DB.out.later hbn)
   have DF:Hid (∀o,(w2.alloc (.cells #[.int .i64 0,.int .i64 N.tm,.int .i64 N.vt,.int .i64 N.si,.int .i64 N.st,.slice a1 N.sn.length k1,.slice g1 N.lg.length j1] 79)).frozen? ⟨w.heap.size+3,o,none⟩=false):=fun o=>((bcell hbn).2 _ _ DB.out.lt).trans (DFB.out o)
   have NC:=hide (Var7_new w2 (.int .i64 0) (.int .i64 N.tm) (.int .i64 N.vt) (.int .i64 N.si) (.int .i64 N.st) (.slice a1 N.sn.length k1) (.slice g1 N.lg.length j1) 79)
   have hz2:=hb.size
   have IC:=hide (ho.later (below_alloc w2 (.cells #[.int .i64 0,.int .i64 N.tm,.int .i64 N.vt,.int .i64 N.si,.int .i64 N.st,.slice a1 N.sn.length k1,.slice g1 N.lg.length j1] 79)))
   clear ho
   clear hb v0 v1 v2 v3 v4 v5 p0 p1 p2 p3 p4 p5 VB OB RB DB DFB BB HE HD
   go_upto_region 6 with fail
   obtain ⟨X,hX⟩: ∃x,w2.alloc (.cells #[.int .i64 0,.int .i64 N.tm,.int .i64 N.vt,.int .i64 N.si,.int .i64 N.st,.slice a1 N.sn.length k1,.slice g1 N.lg.length j1] 79)=x:=⟨_,rfl⟩
   rw [hX] at BC RC DC DF NC IC
   (try rw [hX])
   clear hbn hX
   obtain ⟨d0,d1,d2,d3,d4,d5,d6,d7,d8⟩:=DC.out
   obtain ⟨n0,n1,n2,n3,n4,n5,n6⟩:=NC.out
   have e0:=DF.out 0
   have e1:=DF.out 1
   have e2:=DF.out 2
   have e3:=DF.out 3
   have e4:=DF.out 4
   have e5:=DF.out 5
   have e6:=DF.out 6
   have e7:=DF.out 7
   have e8:=DF.out 8
   go_upto_region 13 with fail
   refine forget (fun W5=>Var9 W5 (w.heap.size+3) (.int .i64 0) (.int .i64 0) (.int .i64 0) (.int .i64 N.tm) (.int .i64 N.vt) (.int .i64 N.si) (.int .i64 N.st) (.slice a1 N.sn.length k1) (.slice g1 N.lg.length j1)∧(∀o,W5.frozen? ⟨w.heap.size+3,o,none⟩=false)∧Res9 w W5 (w.heap.size+2)∧(∃S,RdI S W5 (.slice a1 N.sn.length k1) N.sn)∧(∃S,RdJ S W5 (.slice g1 N.lg.length j1) N.lg)) ?sa4y ?_
   case sa4y=>
    have hw5:Wr (fun x=>x=w.heap.size+3) X (((((((X.setCell ⟨w.heap.size+3,1,none⟩ (.int .i64 0)).setCell ⟨w.heap.size+3,3,none⟩ (.int .i64 N.tm)).setCell ⟨w.heap.size+3,4,none⟩ (.int .i64 N.vt)).setCell ⟨w.heap.size+3,5,none⟩ (.int .i64 N.si)).setCell ⟨w.heap.size+3,6,none⟩ (.int .i64 N.st)).setCell ⟨w.heap.size+3,7,none⟩ (.slice a1 N.sn.length k1)).setCell ⟨w.heap.size+3,8,none⟩ (.slice g1 N.lg.length j1)):=(Wr.setCell (p:=⟨w.heap.size+3,8,none⟩) (Wr.setCell (p:=⟨w.heap.size+3,7,none⟩) (Wr.setCell (p:=⟨w.heap.size+3,6,none⟩) (Wr.setCell (p:=⟨w.heap.size+3,5,none⟩) (Wr.setCell (p:=⟨w.heap.size+3,4,none⟩) (Wr.setCell (p:=⟨w.heap.size+3,3,none⟩) (Wr.setCell (p:=⟨w.heap.size+3,1,none⟩) (Wr.refl (fun x=>x=w.heap.size+3) _) rfl (.int .i64 0)) rfl (.int .i64 N.tm)) rfl (.int .i64 N.vt)) rfl (.int .i64 N.si)) rfl (.int .i64 N.st)) rfl (.slice a1 N.sn.length k1)) rfl (.slice g1 N.lg.length j1))
    refine ⟨⟨by simp [go_sem,d0],by simp [go_sem,d1],by simp [go_sem,d2],by simp [go_sem,d3],by simp [go_sem,d4],by simp [go_sem,d5],by simp [go_sem,d6],by simp [go_sem,d7],by simp [go_sem,d8]⟩,fun o=>?_,RC.out.wr hw5 (by omega) (fun b hb=>by omega),⟨_,IC.out.rdI.wr hw5 (fun _ b hb e=>by have:=hb.1;omega)⟩,⟨_,IC.out.rdJ.wr hw5 (fun b hb e=>by have:=hb.1;omega)⟩⟩
    simp only [World.frozen?_setCell]
    exact DF.out o
   clear d0 d1 d2 d3 d4 d5 d6 d7 d8 n0 n1 n2 n3 n4 n5 n6 e0 e1 e2 e3 e4 e5 e6 e7 e8 DC NC RC DF BC
   rintro W5 ⟨N9,F9,R9,⟨_,hyd⟩,⟨_,hzd⟩⟩
   have HCp:=hide (copyRaftI (N.tm) (N.vt) (N.si) (N.st) hyd hzd HN.out.1 HN.out.2.1 HN.out.2.2)
   obtain ⟨d0,d1,d2,d3,d4,d5,d6,d7,d8⟩:=id N9
   have hw5l:w.heap.size+3<W5.heap.size:=N9.lt
   go_wp2_with fail
   refine HCp.out.mono ?_
   rintro e w7 ⟨y7,z7,rfl,hb,ho⟩
   obtain ⟨a7,k7,g7,j7,hy7,hz7⟩:=ho.shape
   subst hy7
   subst hz7
   have D7:=hide (N9.later hb)
   have DF:Hid (∀o,w7.frozen? ⟨w.heap.size+3,o,none⟩=false):=fun o=>((bcell hb).2 _ _ N9.lt).trans (F9 o)
   have R7:=hide (R9.later hb)
   have HO7:=hide ho
   clear hb ho HCp N9 F9 R9 hyd hzd d0 d1 d2 d3 d4 d5 d6 d7 d8
   obtain ⟨d0,d1,d2,d3,d4,d5,d6,d7,d8⟩:=D7.out
   have e3:=DF.out 3
   have e4:=DF.out 4
   have e5:=DF.out 5
   have e6:=DF.out 6
   have e7:=DF.out 7
   have e8:=DF.out 8
   go_upto_region 14 with fail
   refine forget (fun W5=>Var9 W5 (w.heap.size+3) (.int .i64 0) (.int .i64 0) (.int .i64 0) (.int .i64 N.tm) (.int .i64 N.vt) (.int .i64 N.si) (.int .i64 N.st) (.slice a7 (N.sn).length k7) (.slice g7 (N.lg).length j7)∧(∀o,W5.frozen? ⟨w.heap.size+3,o,none⟩=false)∧Res9 w W5 (w.heap.size+2)∧(∃lo,w.heap.size+3<lo∧IvR lo W5.heap.size W5 (.slice a7 (N.sn).length k7) (.slice g7 (N.lg).length j7) (N.sn) (N.lg))) ?sb4y ?_
   case sb4y=>
    have hw5:Wr (fun x=>x=w.heap.size+3) w7 ((((((w7.setCell ⟨w.heap.size+3,3,none⟩ (.int .i64 N.tm)).setCell ⟨w.heap.size+3,4,none⟩ (.int .i64 N.vt)).setCell ⟨w.heap.size+3,5,none⟩ (.int .i64 N.si)).setCell ⟨w.heap.size+3,6,none⟩ (.int .i64 N.st)).setCell ⟨w.heap.size+3,7,none⟩ (.slice a7 (N.sn).length k7)).setCell ⟨w.heap.size+3,8,none⟩ (.slice g7 (N.lg).length j7)):=(Wr.setCell (p:=⟨w.heap.size+3,8,none⟩) (Wr.setCell (p:=⟨w.heap.size+3,7,none⟩) (Wr.setCell (p:=⟨w.heap.size+3,6,none⟩) (Wr.setCell (p:=⟨w.heap.size+3,5,none⟩) (Wr.setCell (p:=⟨w.heap.size+3,4,none⟩) (Wr.setCell (p:=⟨w.heap.size+3,3,none⟩) (Wr.refl (fun x=>x=w.heap.size+3) _) rfl (.int .i64 N.tm)) rfl (.int .i64 N.vt)) rfl (.int .i64 N.si)) rfl (.int .i64 N.st)) rfl (.slice a7 (N.sn).length k7)) rfl (.slice g7 (N.lg).length j7))
    refine ⟨⟨by simp [go_sem,d0],by simp [go_sem,d1],by simp [go_sem,d2],by simp [go_sem,d3],by simp [go_sem,d4],by simp [go_sem,d5],by simp [go_sem,d6],by simp [go_sem,d7],by simp [go_sem,d8]⟩,fun o=>?_,R7.out.wr hw5 (by omega) (fun b hb=>by omega),_,hw5l,(HO7.out.wr hw5 (fun b h1 h2 e=>by omega)).up (Nat.le_refl _) hw5.size⟩
    simp only [World.frozen?_setCell]
    exact DF.out o
   clear d0 d1 d2 d3 d4 d5 d6 d7 d8 e3 e4 e5 e6 e7 e8
   rintro W8 ⟨N8,_,R8,lo,hlo,I8⟩
   obtain ⟨d0,d1,d2,d3,d4,d5,d6,d7,d8⟩:=N8
   have HR8:=hide R8
   have HFn:=hide (ret_op (r:=w.heap.size+2) (x0:=.int .i64 0) (x1:=.int .i64 0) (x2:=.int .i64 0) (x3:=.int .i64 N.tm) (x4:=.int .i64 N.vt) (x5:=.int .i64 N.si) (x6:=.int .i64 N.st) R8.below R8.ge I8 (by omega))
   clear I8 R8
   obtain ⟨_,⟨c0,c1,c2,c3,c4,c5,c6,c7,c8⟩,F,_⟩:=HR8.out
   have f0:=F 0
   have f1:=F 1
   have f2:=F 2
   have f3:=F 3
   have f4:=F 4
   have f5:=F 5
   have f6:=F 6
   have f7:=F 7
   have f8:=F 8
   clear F
   go_wp2
   refine bodyPost_ret (v:=.agg #[.int .i64 0,.int .i64 0,.int .i64 0,.int .i64 N.tm,.int .i64 N.vt,.int .i64 N.si,.int .i64 N.st,.slice a7 (N.sn).length k7,.slice g7 (N.lg).length j7]) (by simp [results,Tryz.results24,go_sem,c0,c1,c2,c3,c4,c5,c6,c7,c8]) rfl ⟨_,_,rfl,HFn.out.1,HFn.out.2⟩
  ·simp only [if_neg hC0]
   have hCb:(C==0)=false:=by simpa using hC0
   have hCc:(C !=0)=true:=by simp [hC0]
   generalize r.sn.length=l at*
   generalize r.lg.length=m at*
   generalize o.sn.length=l2 at*
   generalize o.lg.length=m2 at*
   generalize r.tm=a at*
   generalize r.vt=b at*
   generalize r.si=c at*
   generalize r.st=d at*
   generalize o.tm=a2 at*
   generalize o.vt=b2 at*
   generalize o.si=c2 at*
   generalize o.st=d2 at*
   subst h
   have BA0:=below_on (below_on (below_alloc w (.cells #[.int .i64 a,.int .i64 b,.int .i64 c,.int .i64 d,.slice ay l cy,.slice az m cz] 27)) (below_alloc _ (.cells #[.int .i64 4,.int .i64 b2,.int .i64 c2,.int .i64 d2,.slice au l2 cu,.slice av m2 cv] 29))) (below_alloc _ (.cells #[.int .i64 0,.int .i64 0,.int .i64 0,.int .i64 0,.int .i64 0,.int .i64 0,.int .i64 0,.slice none 0 0,.slice none 0 0] 33))
   have VR0:=((Var6_new w (.int .i64 a) (.int .i64 b) (.int .i64 c) (.int .i64 d) (.slice ay l cy) (.slice az m cz) 27).later (below_alloc _ (.cells #[.int .i64 4,.int .i64 b2,.int .i64 c2,.int .i64 d2,.slice au l2 cu,.slice av m2 cv] 29))).later (below_alloc _ (.cells #[.int .i64 0,.int .i64 0,.int .i64 0,.int .i64 0,.int .i64 0,.int .i64 0,.int .i64 0,.slice none 0 0,.slice none 0 0] 33))
   have VO0:=(Var6_new (w.alloc (.cells #[.int .i64 a,.int .i64 b,.int .i64 c,.int .i64 d,.slice ay l cy,.slice az m cz] 27)) (.int .i64 4) (.int .i64 b2) (.int .i64 c2) (.int .i64 d2) (.slice au l2 cu) (.slice av m2 cv) 29).later (below_alloc _ (.cells #[.int .i64 0,.int .i64 0,.int .i64 0,.int .i64 0,.int .i64 0,.int .i64 0,.int .i64 0,.slice none 0 0,.slice none 0 0] 33))
   rw [World.size_alloc] at VO0
   have RA0:=Res9.new (below_on (below_alloc w (.cells #[.int .i64 a,.int .i64 b,.int .i64 c,.int .i64 d,.slice ay l cy,.slice az m cz] 27)) (below_alloc _ (.cells #[.int .i64 4,.int .i64 b2,.int .i64 c2,.int .i64 d2,.slice au l2 cu,.slice av m2 cv] 29))) 33
   rw [World.size_alloc,World.size_alloc] at RA0
   obtain ⟨W3,hW3⟩: ∃x,(((w.alloc (.cells #[.int .i64 a,.int .i64 b,.int .i64 c,.int .i64 d,.slice ay l cy,.slice az m cz] 27)).alloc (.cells #[.int .i64 4,.int .i64 b2,.int .i64 c2,.int .i64 d2,.slice au l2 cu,.slice av m2 cv] 29)).alloc (.cells #[.int .i64 0,.int .i64 0,.int .i64 0,.int .i64 0,.int .i64 0,.int .i64 0,.int .i64 0,.slice none 0 0,.slice none 0 0] 33))=x:=⟨_,rfl⟩
   have hs3:W3.heap.size=w.heap.size+3:=by rw [← hW3];simp
   rw [hW3] at BA0 VR0 VO0 RA0
   have BA3:=hide BA0
   have VA3:=hide VR0
   have OA3:=hide VO0
   have RA3:=hide RA0
   clear BA0 VR0 VO0 RA0
   go_enter Tryz.func24,Tryz.ntmps24
   go_upto_region 1 with fail
   (try rw [hW3])
   clear hW3
   obtain ⟨v0,v1,v2,v3,v4,v5⟩:=VA3.out
   skip
   go_upto_region 2 with fail
   have hbd:=below_alloc W3 (.cells #[.int .i64 0,.int .i64 0,.int .i64 0,.int .i64 a,.int .i64 b,.int .i64 c,.int .i64 d,.slice ay l cy,.slice az m cz] 33)
   have BA:=hide (below_on BA3.out hbd)
   have VA:=hide (VA3.out.later hbd)
   have OA:=hide (OA3.out.later hbd)
   have RA:=hide (RA3.out.later hbd)
   have DA0:=Var9_new W3 (.int .i64 0) (.int .i64 0) (.int .i64 0) (.int .i64 a) (.int .i64 b) (.int .i64 c) (.int .i64 d) (.slice ay l cy) (.slice az m cz) 33
   rw [hs3] at DA0
   have DA:=hide DA0
   have DFA0: ∀o,(W3.alloc (.cells #[.int .i64 0,.int .i64 0,.int .i64 0,.int .i64 a,.int .i64 b,.int .i64 c,.int .i64 d,.slice ay l cy,.slice az m cz] 33)).frozen? ⟨w.heap.size+3,o,none⟩=false:=fun q=>by rw [← hs3];simp [go_sem]
   have DFA:=hide DFA0
   obtain ⟨W,hW⟩: ∃x,W3.alloc (.cells #[.int .i64 0,.int .i64 0,.int .i64 0,.int .i64 a,.int .i64 b,.int .i64 c,.int .i64 d,.slice ay l cy,.slice az m cz] 33)=x:=⟨_,rfl⟩
   have hsW:W.heap.size=w.heap.size+4:=by rw [← hW];simp [hs3]
   rw [hW] at BA VA OA RA DA DFA
   (try rw [hW])
   (try simp only [hs3])
   clear hbd DA0 DFA0 hW BA3 VA3 OA3 RA3 hs3 v0 v1 v2 v3 v4 v5
   obtain ⟨p0,p1,p2,p3,p4,p5⟩:=OA.out
   have HT:=hide (table4 W)
   go_wp2_with fail
   refine HT.out.mono ?_
   rintro e w1 ⟨rfl,hb⟩
   have BB:=hide (below_on BA.out hb)
   have VB:=hide (VA.out.later hb)
   have OB:=hide (OA.out.later hb)
   have RB:=hide (RA.out.later hb)
   have DB:=hide (DA.out.later hb)
   have DFB:Hid (∀o,w1.frozen? ⟨w.heap.size+3,o,none⟩=false):=fun o=>((bcell hb).2 _ _ DA.out.lt).trans (DFA.out o)
   have hz1:=hb.size
   clear hb p0 p1 p2 p3 p4 p5 VA OA RA DA DFA BA HT
   obtain ⟨v0,v1,v2,v3,v4,v5⟩:=VB.out
   obtain ⟨p0,p1,p2,p3,p4,p5⟩:=OB.out
   have HE:=hide (HD.out _ BB.out)
   have asC:=Tryz.asCh
   go_wp2_with fail
   clear asC
   refine HE.out.mono ?_
   rintro e w2 ⟨y1,z1,rfl,hb,ho⟩
   obtain ⟨a1,k1,g1,j1,rfl,rfl⟩:=ho.shape
   have hbn:=below_on hb (below_alloc w2 (.cells #[.int .i64 C,.int .i64 N.tm,.int .i64 N.vt,.int .i64 N.si,.int .i64 N.st,.slice a1 N.sn.length k1,.slice g1 N.lg.length j1] 79))
   have BC:=hide (below_on BB.out hbn)
   have RC:=hide (RB.out.later hbn)
   have DC:=hide (DB.out.later hbn)
   have DF:Hid (∀o,(w2.alloc (.cells #[.int .i64 C,.int .i64 N.tm,.int .i64 N.vt,.int .i64 N.si,.int .i64 N.st,.slice a1 N.sn.length k1,.slice g1 N.lg.length j1] 79)).frozen? ⟨w.heap.size+3,o,none⟩=false):=fun o=>((bcell hbn).2 _ _ DB.out.lt).trans (DFB.out o)
   have NC:=hide (Var7_new w2 (.int .i64 C) (.int .i64 N.tm) (.int .i64 N.vt) (.int .i64 N.si) (.int .i64 N.st) (.slice a1 N.sn.length k1) (.slice g1 N.lg.length j1) 79)
   have hz2:=hb.size
   have IC:=hide (ho.later (below_alloc w2 (.cells #[.int .i64 C,.int .i64 N.tm,.int .i64 N.vt,.int .i64 N.si,.int .i64 N.st,.slice a1 N.sn.length k1,.slice g1 N.lg.length j1] 79)))
   clear ho
   clear hb v0 v1 v2 v3 v4 v5 p0 p1 p2 p3 p4 p5 VB OB RB DB DFB BB HE HD
   go_upto_region 6 with fail
   obtain ⟨X,hX⟩: ∃x,w2.alloc (.cells #[.int .i64 C,.int .i64 N.tm,.int .i64 N.vt,.int .i64 N.si,.int .i64 N.st,.slice a1 N.sn.length k1,.slice g1 N.lg.length j1] 79)=x:=⟨_,rfl⟩
   rw [hX] at BC RC DC DF NC IC
   (try rw [hX])
   clear hbn hX
   obtain ⟨d0,d1,d2,d3,d4,d5,d6,d7,d8⟩:=DC.out
   obtain ⟨n0,n1,n2,n3,n4,n5,n6⟩:=NC.out
   have e0:=DF.out 0
   have e1:=DF.out 1
   have e2:=DF.out 2
   have e3:=DF.out 3
   have e4:=DF.out 4
   have e5:=DF.out 5
   have e6:=DF.out 6
   have e7:=DF.out 7
   have e8:=DF.out 8
   go_upto_region 13 with fail
   refine forget (fun W5=>Var9 W5 (w.heap.size+3) (.int .i64 0) (.int .i64 C) (.int .i64 0) (.int .i64 a) (.int .i64 b) (.int .i64 c) (.int .i64 d) (.slice ay l cy) (.slice az m cz)∧(∀o,W5.frozen? ⟨w.heap.size+3,o,none⟩=false)∧Res9 w W5 (w.heap.size+2)∧(∃S,RdI S W5 (.slice ay l cy) r.sn)∧(∃S,RdJ S W5 (.slice az m cz) r.lg)) ?sa4n ?_
   case sa4n=>
    have hw5:Wr (fun x=>x=w.heap.size+3) X (X.setCell ⟨w.heap.size+3,1,none⟩ (.int .i64 C)):=(Wr.setCell (p:=⟨w.heap.size+3,1,none⟩) (Wr.refl (fun x=>x=w.heap.size+3) _) rfl (.int .i64 C))
    refine ⟨⟨by simp [go_sem,d0],by simp [go_sem,d1],by simp [go_sem,d2],by simp [go_sem,d3],by simp [go_sem,d4],by simp [go_sem,d5],by simp [go_sem,d6],by simp [go_sem,d7],by simp [go_sem,d8]⟩,fun o=>?_,RC.out.wr hw5 (by omega) (fun b hb=>by omega),⟨_,((RdI_old HY.out).later BC.out).wr hw5 (fun _ b hb e=>by omega)⟩,⟨_,((RdJ_old HZ.out).later BC.out).wr hw5 (fun b hb e=>by omega)⟩⟩
    simp only [World.frozen?_setCell]
    exact DF.out o
   clear d0 d1 d2 d3 d4 d5 d6 d7 d8 n0 n1 n2 n3 n4 n5 n6 e0 e1 e2 e3 e4 e5 e6 e7 e8 DC NC RC DF BC
   rintro W5 ⟨N9,F9,R9,⟨_,hyd⟩,⟨_,hzd⟩⟩
   have HCp:=hide (copyRaftI (a) (b) (c) (d) hyd hzd HRo.out.1 HRo.out.2.1 HRo.out.2.2)
   obtain ⟨d0,d1,d2,d3,d4,d5,d6,d7,d8⟩:=id N9
   have hw5l:w.heap.size+3<W5.heap.size:=N9.lt
   go_wp2_with fail
   refine HCp.out.mono ?_
   rintro e w7 ⟨y7,z7,rfl,hb,ho⟩
   obtain ⟨a7,k7,g7,j7,hy7,hz7⟩:=ho.shape
   subst hy7
   subst hz7
   have D7:=hide (N9.later hb)
   have DF:Hid (∀o,w7.frozen? ⟨w.heap.size+3,o,none⟩=false):=fun o=>((bcell hb).2 _ _ N9.lt).trans (F9 o)
   have R7:=hide (R9.later hb)
   have HO7:=hide ho
   clear hb ho HCp N9 F9 R9 hyd hzd d0 d1 d2 d3 d4 d5 d6 d7 d8
   obtain ⟨d0,d1,d2,d3,d4,d5,d6,d7,d8⟩:=D7.out
   have e3:=DF.out 3
   have e4:=DF.out 4
   have e5:=DF.out 5
   have e6:=DF.out 6
   have e7:=DF.out 7
   have e8:=DF.out 8
   go_upto_region 14 with fail
   refine forget (fun W5=>Var9 W5 (w.heap.size+3) (.int .i64 0) (.int .i64 C) (.int .i64 0) (.int .i64 a) (.int .i64 b) (.int .i64 c) (.int .i64 d) (.slice a7 (r.sn).length k7) (.slice g7 (r.lg).length j7)∧(∀o,W5.frozen? ⟨w.heap.size+3,o,none⟩=false)∧Res9 w W5 (w.heap.size+2)∧(∃lo,w.heap.size+3<lo∧IvR lo W5.heap.size W5 (.slice a7 (r.sn).length k7) (.slice g7 (r.lg).length j7) (r.sn) (r.lg))) ?sb4n ?_
   case sb4n=>
    have hw5:Wr (fun x=>x=w.heap.size+3) w7 ((((((w7.setCell ⟨w.heap.size+3,3,none⟩ (.int .i64 a)).setCell ⟨w.heap.size+3,4,none⟩ (.int .i64 b)).setCell ⟨w.heap.size+3,5,none⟩ (.int .i64 c)).setCell ⟨w.heap.size+3,6,none⟩ (.int .i64 d)).setCell ⟨w.heap.size+3,7,none⟩ (.slice a7 (r.sn).length k7)).setCell ⟨w.heap.size+3,8,none⟩ (.slice g7 (r.lg).length j7)):=(Wr.setCell (p:=⟨w.heap.size+3,8,none⟩) (Wr.setCell (p:=⟨w.heap.size+3,7,none⟩) (Wr.setCell (p:=⟨w.heap.size+3,6,none⟩) (Wr.setCell (p:=⟨w.heap.size+3,5,none⟩) (Wr.setCell (p:=⟨w.heap.size+3,4,none⟩) (Wr.setCell (p:=⟨w.heap.size+3,3,none⟩) (Wr.refl (fun x=>x=w.heap.size+3) _) rfl (.int .i64 a)) rfl (.int .i64 b)) rfl (.int .i64 c)) rfl (.int .i64 d)) rfl (.slice a7 (r.sn).length k7)) rfl (.slice g7 (r.lg).length j7))
    refine ⟨⟨by simp [go_sem,d0],by simp [go_sem,d1],by simp [go_sem,d2],by simp [go_sem,d3],by simp [go_sem,d4],by simp [go_sem,d5],by simp [go_sem,d6],by simp [go_sem,d7],by simp [go_sem,d8]⟩,fun o=>?_,R7.out.wr hw5 (by omega) (fun b hb=>by omega),_,hw5l,(HO7.out.wr hw5 (fun b h1 h2 e=>by omega)).up (Nat.le_refl _) hw5.size⟩
    simp only [World.frozen?_setCell]
    exact DF.out o
   clear d0 d1 d2 d3 d4 d5 d6 d7 d8 e3 e4 e5 e6 e7 e8
   rintro W8 ⟨N8,_,R8,lo,hlo,I8⟩
   obtain ⟨d0,d1,d2,d3,d4,d5,d6,d7,d8⟩:=N8
   have HR8:=hide R8
   have HFn:=hide (ret_op (r:=w.heap.size+2) (x0:=.int .i64 0) (x1:=.int .i64 C) (x2:=.int .i64 0) (x3:=.int .i64 a) (x4:=.int .i64 b) (x5:=.int .i64 c) (x6:=.int .i64 d) R8.below R8.ge I8 (by omega))
   clear I8 R8
   obtain ⟨_,⟨c0,c1,c2,c3,c4,c5,c6,c7,c8⟩,F,_⟩:=HR8.out
   have f0:=F 0
   have f1:=F 1
   have f2:=F 2
   have f3:=F 3
   have f4:=F 4
   have f5:=F 5
   have f6:=F 6
   have f7:=F 7
   have f8:=F 8
   clear F
   go_wp2
   refine bodyPost_ret (v:=.agg #[.int .i64 0,.int .i64 C,.int .i64 0,.int .i64 a,.int .i64 b,.int .i64 c,.int .i64 d,.slice a7 (r.sn).length k7,.slice g7 (r.lg).length j7]) (by simp [results,Tryz.results24,go_sem,c0,c1,c2,c3,c4,c5,c6,c7,c8]) rfl ⟨_,_,rfl,HFn.out.1,HFn.out.2⟩
 ·skip
  obtain ⟨e1,e2,e3⟩:=dy5 (r:=r) h
  have HD:=hide (fun (w':World) (hb:Below w.heap.size w w')=>deed5 r o (hg.later hb) (hy.later hb) (hz.later hb) hcp (hu.later hb) (hv.later hb) hcv)
  rw [e1,e2,e3]
  clear e1 e2 e3
  obtain ⟨C,hC⟩: ∃C,taC r o.vt=C:=⟨_,rfl⟩
  obtain ⟨N,hN⟩: ∃N,taV r o.vt=N:=⟨_,rfl⟩
  rw [hC,hN] at HD
  rw [hC,hN]
  clear hC hN hy hz hu hv hcp hcv hg h0 h1
  generalize r.sn.length=l at*
  generalize r.lg.length=m at*
  generalize o.sn.length=l2 at*
  generalize o.lg.length=m2 at*
  generalize r.tm=a at*
  generalize r.vt=b at*
  generalize r.si=c at*
  generalize r.st=d at*
  generalize o.tm=a2 at*
  generalize o.vt=b2 at*
  generalize o.si=c2 at*
  generalize o.st=d2 at*
  subst h
  have BA0:=below_on (below_on (below_alloc w (.cells #[.int .i64 a,.int .i64 b,.int .i64 c,.int .i64 d,.slice ay l cy,.slice az m cz] 27)) (below_alloc _ (.cells #[.int .i64 5,.int .i64 b2,.int .i64 c2,.int .i64 d2,.slice au l2 cu,.slice av m2 cv] 29))) (below_alloc _ (.cells #[.int .i64 0,.int .i64 0,.int .i64 0,.int .i64 0,.int .i64 0,.int .i64 0,.int .i64 0,.slice none 0 0,.slice none 0 0] 33))
  have VR0:=((Var6_new w (.int .i64 a) (.int .i64 b) (.int .i64 c) (.int .i64 d) (.slice ay l cy) (.slice az m cz) 27).later (below_alloc _ (.cells #[.int .i64 5,.int .i64 b2,.int .i64 c2,.int .i64 d2,.slice au l2 cu,.slice av m2 cv] 29))).later (below_alloc _ (.cells #[.int .i64 0,.int .i64 0,.int .i64 0,.int .i64 0,.int .i64 0,.int .i64 0,.int .i64 0,.slice none 0 0,.slice none 0 0] 33))
  have VO0:=(Var6_new (w.alloc (.cells #[.int .i64 a,.int .i64 b,.int .i64 c,.int .i64 d,.slice ay l cy,.slice az m cz] 27)) (.int .i64 5) (.int .i64 b2) (.int .i64 c2) (.int .i64 d2) (.slice au l2 cu) (.slice av m2 cv) 29).later (below_alloc _ (.cells #[.int .i64 0,.int .i64 0,.int .i64 0,.int .i64 0,.int .i64 0,.int .i64 0,.int .i64 0,.slice none 0 0,.slice none 0 0] 33))
  rw [World.size_alloc] at VO0
  have RA0:=Res9.new (below_on (below_alloc w (.cells #[.int .i64 a,.int .i64 b,.int .i64 c,.int .i64 d,.slice ay l cy,.slice az m cz] 27)) (below_alloc _ (.cells #[.int .i64 5,.int .i64 b2,.int .i64 c2,.int .i64 d2,.slice au l2 cu,.slice av m2 cv] 29))) 33
  rw [World.size_alloc,World.size_alloc] at RA0
  obtain ⟨W3,hW3⟩: ∃x,(((w.alloc (.cells #[.int .i64 a,.int .i64 b,.int .i64 c,.int .i64 d,.slice ay l cy,.slice az m cz] 27)).alloc (.cells #[.int .i64 5,.int .i64 b2,.int .i64 c2,.int .i64 d2,.slice au l2 cu,.slice av m2 cv] 29)).alloc (.cells #[.int .i64 0,.int .i64 0,.int .i64 0,.int .i64 0,.int .i64 0,.int .i64 0,.int .i64 0,.slice none 0 0,.slice none 0 0] 33))=x:=⟨_,rfl⟩
  have hs3:W3.heap.size=w.heap.size+3:=by rw [← hW3];simp
  rw [hW3] at BA0 VR0 VO0 RA0
  have BA3:=hide BA0
  have VA3:=hide VR0
  have OA3:=hide VO0
  have RA3:=hide RA0
  clear BA0 VR0 VO0 RA0
  go_enter Tryz.func24,Tryz.ntmps24
  go_upto_region 1 with fail
  (try rw [hW3])
  clear hW3
  obtain ⟨v0,v1,v2,v3,v4,v5⟩:=VA3.out
  skip
  go_upto_region 2 with fail
  have hbd:=below_alloc W3 (.cells #[.int .i64 0,.int .i64 0,.int .i64 0,.int .i64 a,.int .i64 b,.int .i64 c,.int .i64 d,.slice ay l cy,.slice az m cz] 33)
  have BA:=hide (below_on BA3.out hbd)
  have VA:=hide (VA3.out.later hbd)
  have OA:=hide (OA3.out.later hbd)
  have RA:=hide (RA3.out.later hbd)
  have DA0:=Var9_new W3 (.int .i64 0) (.int .i64 0) (.int .i64 0) (.int .i64 a) (.int .i64 b) (.int .i64 c) (.int .i64 d) (.slice ay l cy) (.slice az m cz) 33
  rw [hs3] at DA0
  have DA:=hide DA0
  have DFA0: ∀o,(W3.alloc (.cells #[.int .i64 0,.int .i64 0,.int .i64 0,.int .i64 a,.int .i64 b,.int .i64 c,.int .i64 d,.slice ay l cy,.slice az m cz] 33)).frozen? ⟨w.heap.size+3,o,none⟩=false:=fun q=>by rw [← hs3];simp [go_sem]
  have DFA:=hide DFA0
  obtain ⟨W,hW⟩: ∃x,W3.alloc (.cells #[.int .i64 0,.int .i64 0,.int .i64 0,.int .i64 a,.int .i64 b,.int .i64 c,.int .i64 d,.slice ay l cy,.slice az m cz] 33)=x:=⟨_,rfl⟩
  have hsW:W.heap.size=w.heap.size+4:=by rw [← hW];simp [hs3]
  rw [hW] at BA VA OA RA DA DFA
  (try rw [hW])
  (try simp only [hs3])
  clear hbd DA0 DFA0 hW BA3 VA3 OA3 RA3 hs3 v0 v1 v2 v3 v4 v5
  obtain ⟨p0,p1,p2,p3,p4,p5⟩:=OA.out
  have HT:=hide (table5 W)
  go_wp2_with fail
  refine HT.out.mono ?_
  rintro e w1 ⟨rfl,hb⟩
  have BB:=hide (below_on BA.out hb)
  have VB:=hide (VA.out.later hb)
  have OB:=hide (OA.out.later hb)
  have RB:=hide (RA.out.later hb)
  have DB:=hide (DA.out.later hb)
  have DFB:Hid (∀o,w1.frozen? ⟨w.heap.size+3,o,none⟩=false):=fun o=>((bcell hb).2 _ _ DA.out.lt).trans (DFA.out o)
  have hz1:=hb.size
  clear hb p0 p1 p2 p3 p4 p5 VA OA RA DA DFA BA HT
  obtain ⟨v0,v1,v2,v3,v4,v5⟩:=VB.out
  obtain ⟨p0,p1,p2,p3,p4,p5⟩:=OB.out
  have HE:=hide (HD.out _ BB.out)
  have asC:=Tryz.asLc
  have asL:=Tryz.asLk
  go_wp2_with fail
  clear asC asL
  refine HE.out.mono ?_
  rintro e w2 ⟨rfl,hb⟩
  have hbn:=below_on hb (below_alloc w2 (.cells #[.int .i64 C,.int .i64 N] 60))
  have BC:=hide (below_on BB.out hbn)
  have RC:=hide (RB.out.later hbn)
  have DC:=hide (DB.out.later hbn)
  have DF:Hid (∀o,(w2.alloc (.cells #[.int .i64 C,.int .i64 N] 60)).frozen? ⟨w.heap.size+3,o,none⟩=false):=fun o=>((bcell hbn).2 _ _ DB.out.lt).trans (DFB.out o)
  have NC:=hide (Var2_new w2 (.int .i64 C) (.int .i64 N) 60)
  have hz2:=hb.size
  clear hb v0 v1 v2 v3 v4 v5 p0 p1 p2 p3 p4 p5 VB OB RB DB DFB BB HE HD
  go_upto_region 12 with fail
  obtain ⟨X,hX⟩: ∃x,w2.alloc (.cells #[.int .i64 C,.int .i64 N] 60)=x:=⟨_,rfl⟩
  rw [hX] at BC RC DC DF NC
  (try rw [hX])
  clear hbn hX
  obtain ⟨d0,d1,d2,d3,d4,d5,d6,d7,d8⟩:=DC.out
  obtain ⟨n0,n1⟩:=NC.out
  have e0:=DF.out 0
  have e1:=DF.out 1
  have e2:=DF.out 2
  have e3:=DF.out 3
  have e4:=DF.out 4
  have e5:=DF.out 5
  have e6:=DF.out 6
  have e7:=DF.out 7
  have e8:=DF.out 8
  refine wp_region_held_drew (S:=fun w'=>w'.cell? ⟨w2.heap.size,0,none⟩=some (.int .i64 C)∧w'.cell? ⟨w2.heap.size,1,none⟩=some (.int .i64 N)) (by kernel_rfl) ⟨n0,n1⟩ (fun hHeld0=>?_)
  refine forgetH (fun wx=>(wx.cell? ⟨w2.heap.size,0,none⟩=some (.int .i64 C)∧wx.cell? ⟨w2.heap.size,1,none⟩=some (.int .i64 N))∧Below X.heap.size X wx) ⟨hHeld0,below_drewN X 1⟩ ?_
  clear hHeld0
  rintro X0 ⟨hHeld,hbx⟩
  obtain ⟨P0,P1⟩:=id hHeld
  have BC0:=hide (below_on BC.out hbx)
  have RC0:=hide (RC.out.later hbx)
  have DC0:=hide (DC.out.later hbx)
  have DF0:Hid (∀o,X0.frozen? ⟨w.heap.size+3,o,none⟩=false):=fun o=>((bcell hbx).2 _ _ DC.out.lt).trans (DF.out o)
  clear hbx d0 d1 d2 d3 d4 d5 d6 d7 d8 n0 n1 e0 e1 e2 e3 e4 e5 e6 e7 e8 DC NC RC DF BC
  have BC:=BC0
  have RC:=RC0
  have DC:=DC0
  have DF:=DF0
  clear BC0 RC0 DC0 DF0
  obtain ⟨d0,d1,d2,d3,d4,d5,d6,d7,d8⟩:=DC.out
  have e0:=DF.out 0
  have e1:=DF.out 1
  have e2:=DF.out 2
  have e3:=DF.out 3
  have e4:=DF.out 4
  have e5:=DF.out 5
  have e6:=DF.out 6
  have e7:=DF.out 7
  have e8:=DF.out 8
  refine wpAnyH_take (i:=0) (v:=?v12x0) rfl (by kernel_rfl) (by kernel_rfl) (by kernel_rfl) (fun _ _ _ h=>h) (Or.inl ⟨by rfl,?h12x0⟩) hHeld ?r12x0
  case h12x0=>intro w9 hSw;(try dsimp only at hSw);first | (go_simp;done) | (go_simp;with_reducible rfl)
  try simp only [Act.put,List.setIfInBounds_toArray,List.set_cons_zero,List.set_cons_succ,List.getElem_toArray,List.getElem_cons_zero,List.getElem_cons_succ]
  refine wpAnyH_take (i:=1) (v:=?v12x1) rfl (by kernel_rfl) (by kernel_rfl) (by kernel_rfl) (fun _ _ _ h=>h) (Or.inl ⟨by rfl,?h12x1⟩) hHeld ?r12x1
  case h12x1=>intro w9 hSw;(try dsimp only at hSw);first | (go_simp;done) | (go_simp;with_reducible rfl)
  try simp only [Act.put,List.setIfInBounds_toArray,List.set_cons_zero,List.set_cons_succ,List.getElem_toArray,List.getElem_cons_zero,List.getElem_cons_succ]
  refine wpAnyH_take (i:=2) (v:=?v12x2) rfl (by kernel_rfl) (by kernel_rfl) (by kernel_rfl) (fun _ _ _ h=>h) (Or.inl ⟨by rfl,?h12x2⟩) hHeld ?r12x2
  case h12x2=>intro w9 hSw;(try dsimp only at hSw);first | (go_simp;done) | (go_simp;with_reducible rfl)
  try simp only [Act.put,List.setIfInBounds_toArray,List.set_cons_zero,List.set_cons_succ,List.getElem_toArray,List.getElem_cons_zero,List.getElem_cons_succ]
  refine wpAnyH_take (i:=3) (v:=?v12x3) rfl (by kernel_rfl) (by kernel_rfl) (by kernel_rfl) (fun _ _ _ h=>h) (Or.inl ⟨by rfl,?h12x3⟩) hHeld ?r12x3
  case h12x3=>intro w9 hSw;(try dsimp only at hSw);first | (go_simp;done) | (go_simp;with_reducible rfl)
  try simp only [Act.put,List.setIfInBounds_toArray,List.set_cons_zero,List.set_cons_succ,List.getElem_toArray,List.getElem_cons_zero,List.getElem_cons_succ]
  refine wpAnyH_take (i:=4) (v:=?v12x4) rfl (by kernel_rfl) (by kernel_rfl) (by kernel_rfl) (fun _ _ _ h=>h) (Or.inl ⟨by rfl,?h12x4⟩) hHeld ?r12x4
  case h12x4=>intro w9 hSw;(try dsimp only at hSw);first | (go_simp;done) | (go_simp;with_reducible rfl)
  try simp only [Act.put,List.setIfInBounds_toArray,List.set_cons_zero,List.set_cons_succ,List.getElem_toArray,List.getElem_cons_zero,List.getElem_cons_succ]
  refine wpAnyH_ready (rs:=[5]) (by kernel_rfl) (by simp) (AllReadyH.cons rfl (fun K hK=>?_) (AllReadyH.nil))
  go_simp
  have Q0:(X0.setCell ⟨w.heap.size+3,1,none⟩ (.int .i64 C)).cell? ⟨w2.heap.size,0,none⟩=some (.int .i64 C):=(by rw [World.cell?_setCell_other _ _ _ _ (by first | (simp;done) | (simp;omega) | omega)];exact P0)
  have Q1:(X0.setCell ⟨w.heap.size+3,1,none⟩ (.int .i64 C)).cell? ⟨w2.heap.size,1,none⟩=some (.int .i64 N):=(by rw [World.cell?_setCell_other _ _ _ _ (by first | (simp;done) | (simp;omega) | omega)];exact P1)
  refine hK.out _ _ ⟨Q0,Q1⟩ (fun _=>?_)
  clear hK K
  try simp only [Act.put,List.setIfInBounds_toArray,List.set_cons_zero,List.set_cons_succ,List.getElem_toArray,List.getElem_cons_zero,List.getElem_cons_succ]
  refine wpAnyH_take (i:=6) (v:=?v12x6) rfl (by kernel_rfl) (by kernel_rfl) (by kernel_rfl) (fun _ _ _ h=>h) (Or.inl ⟨by rfl,?h12x6⟩) ⟨Q0,Q1⟩ ?r12x6
  case h12x6=>intro w9 hSw;(try dsimp only at hSw);first | (go_simp;done) | (go_simp;with_reducible rfl)
  try simp only [Act.put,List.setIfInBounds_toArray,List.set_cons_zero,List.set_cons_succ,List.getElem_toArray,List.getElem_cons_zero,List.getElem_cons_succ]
  refine wpAnyH_ready (rs:=[7]) (by kernel_rfl) (by simp) (AllReadyH.cons rfl (fun K hK=>?_) (AllReadyH.nil))
  go_simp
  refine hK.out _ _ ⟨(by rw [World.cell?_setCell_other _ _ _ _ (by first | (simp;done) | (simp;omega) | omega)];exact Q0),(by rw [World.cell?_setCell_other _ _ _ _ (by first | (simp;done) | (simp;omega) | omega)];exact Q1)⟩ (fun _=>?_)
  clear hK K
  try simp only [Act.put,List.setIfInBounds_toArray,List.set_cons_zero,List.set_cons_succ,List.getElem_toArray,List.getElem_cons_zero,List.getElem_cons_succ]
  refine wpAnyH_done (by kernel_rfl) ?_ _
  refine forgetX9 (fun W5=>Var9 W5 (w.heap.size+3) (.int .i64 0) (.int .i64 C) (.int .i64 N) (.int .i64 a) (.int .i64 b) (.int .i64 c) (.int .i64 d) (.slice ay l cy) (.slice az m cz)∧(∀o,W5.frozen? ⟨w.heap.size+3,o,none⟩=false)∧Res9 w W5 (w.heap.size+2)∧(∃S,RdI S W5 (.slice ay l cy) r.sn)∧(∃S,RdJ S W5 (.slice az m cz) r.lg)) ?sa5 ?_
  case sa5=>
   have hw5:Wr (fun x=>x=w.heap.size+3) X0 ((X0.setCell ⟨w.heap.size+3,1,none⟩ (.int .i64 C)).setCell ⟨w.heap.size+3,2,none⟩ (.int .i64 N)):=(Wr.setCell (p:=⟨w.heap.size+3,2,none⟩) (Wr.setCell (p:=⟨w.heap.size+3,1,none⟩) (Wr.refl (fun x=>x=w.heap.size+3) _) rfl (.int .i64 C)) rfl (.int .i64 N))
   refine ⟨⟨by simp [go_sem,d0],by simp [go_sem,d1],by simp [go_sem,d2],by simp [go_sem,d3],by simp [go_sem,d4],by simp [go_sem,d5],by simp [go_sem,d6],by simp [go_sem,d7],by simp [go_sem,d8]⟩,fun o=>?_,RC.out.wr hw5 (by omega) (fun b hb=>by omega),⟨_,((RdI_old HY.out).later BC.out).wr hw5 (fun _ b hb e=>by omega)⟩,⟨_,((RdJ_old HZ.out).later BC.out).wr hw5 (fun b hb e=>by omega)⟩⟩
   simp only [World.frozen?_setCell]
   exact DF.out o
  clear d0 d1 d2 d3 d4 d5 d6 d7 d8 P0 P1 Q0 Q1 hHeld e0 e1 e2 e3 e4 e5 e6 e7 e8 DC RC DF BC
  rintro W5 ⟨N9,F9,R9,⟨_,hyd⟩,⟨_,hzd⟩⟩
  have HCp:=hide (copyRaftI (a) (b) (c) (d) hyd hzd HRo.out.1 HRo.out.2.1 HRo.out.2.2)
  obtain ⟨d0,d1,d2,d3,d4,d5,d6,d7,d8⟩:=id N9
  have hw5l:w.heap.size+3<W5.heap.size:=N9.lt
  go_wp2_with fail
  refine HCp.out.mono ?_
  rintro e w7 ⟨y7,z7,rfl,hb,ho⟩
  obtain ⟨a7,k7,g7,j7,hy7,hz7⟩:=ho.shape
  subst hy7
  subst hz7
  have D7:=hide (N9.later hb)
  have DF:Hid (∀o,w7.frozen? ⟨w.heap.size+3,o,none⟩=false):=fun o=>((bcell hb).2 _ _ N9.lt).trans (F9 o)
  have R7:=hide (R9.later hb)
  have HO7:=hide ho
  clear hb ho HCp N9 F9 R9 hyd hzd d0 d1 d2 d3 d4 d5 d6 d7 d8
  obtain ⟨d0,d1,d2,d3,d4,d5,d6,d7,d8⟩:=D7.out
  have e3:=DF.out 3
  have e4:=DF.out 4
  have e5:=DF.out 5
  have e6:=DF.out 6
  have e7:=DF.out 7
  have e8:=DF.out 8
  go_upto_region 14 with fail
  refine forget (fun W5=>Var9 W5 (w.heap.size+3) (.int .i64 0) (.int .i64 C) (.int .i64 N) (.int .i64 a) (.int .i64 b) (.int .i64 c) (.int .i64 d) (.slice a7 (r.sn).length k7) (.slice g7 (r.lg).length j7)∧(∀o,W5.frozen? ⟨w.heap.size+3,o,none⟩=false)∧Res9 w W5 (w.heap.size+2)∧(∃lo,w.heap.size+3<lo∧IvR lo W5.heap.size W5 (.slice a7 (r.sn).length k7) (.slice g7 (r.lg).length j7) (r.sn) (r.lg))) ?sb5n ?_
  case sb5n=>
   have hw5:Wr (fun x=>x=w.heap.size+3) w7 ((((((w7.setCell ⟨w.heap.size+3,3,none⟩ (.int .i64 a)).setCell ⟨w.heap.size+3,4,none⟩ (.int .i64 b)).setCell ⟨w.heap.size+3,5,none⟩ (.int .i64 c)).setCell ⟨w.heap.size+3,6,none⟩ (.int .i64 d)).setCell ⟨w.heap.size+3,7,none⟩ (.slice a7 (r.sn).length k7)).setCell ⟨w.heap.size+3,8,none⟩ (.slice g7 (r.lg).length j7)):=(Wr.setCell (p:=⟨w.heap.size+3,8,none⟩) (Wr.setCell (p:=⟨w.heap.size+3,7,none⟩) (Wr.setCell (p:=⟨w.heap.size+3,6,none⟩) (Wr.setCell (p:=⟨w.heap.size+3,5,none⟩) (Wr.setCell (p:=⟨w.heap.size+3,4,none⟩) (Wr.setCell (p:=⟨w.heap.size+3,3,none⟩) (Wr.refl (fun x=>x=w.heap.size+3) _) rfl (.int .i64 a)) rfl (.int .i64 b)) rfl (.int .i64 c)) rfl (.int .i64 d)) rfl (.slice a7 (r.sn).length k7)) rfl (.slice g7 (r.lg).length j7))
   refine ⟨⟨by simp [go_sem,d0],by simp [go_sem,d1],by simp [go_sem,d2],by simp [go_sem,d3],by simp [go_sem,d4],by simp [go_sem,d5],by simp [go_sem,d6],by simp [go_sem,d7],by simp [go_sem,d8]⟩,fun o=>?_,R7.out.wr hw5 (by omega) (fun b hb=>by omega),_,hw5l,(HO7.out.wr hw5 (fun b h1 h2 e=>by omega)).up (Nat.le_refl _) hw5.size⟩
   simp only [World.frozen?_setCell]
   exact DF.out o
  clear d0 d1 d2 d3 d4 d5 d6 d7 d8 e3 e4 e5 e6 e7 e8
  rintro W8 ⟨N8,_,R8,lo,hlo,I8⟩
  obtain ⟨d0,d1,d2,d3,d4,d5,d6,d7,d8⟩:=N8
  have HR8:=hide R8
  have HFn:=hide (ret_op (r:=w.heap.size+2) (x0:=.int .i64 0) (x1:=.int .i64 C) (x2:=.int .i64 N) (x3:=.int .i64 a) (x4:=.int .i64 b) (x5:=.int .i64 c) (x6:=.int .i64 d) R8.below R8.ge I8 (by omega))
  clear I8 R8
  obtain ⟨_,⟨c0,c1,c2,c3,c4,c5,c6,c7,c8⟩,F,_⟩:=HR8.out
  have f0:=F 0
  have f1:=F 1
  have f2:=F 2
  have f3:=F 3
  have f4:=F 4
  have f5:=F 5
  have f6:=F 6
  have f7:=F 7
  have f8:=F 8
  clear F
  go_wp2
  refine bodyPost_ret (v:=.agg #[.int .i64 0,.int .i64 C,.int .i64 N,.int .i64 a,.int .i64 b,.int .i64 c,.int .i64 d,.slice a7 (r.sn).length k7,.slice g7 (r.lg).length j7]) (by simp [results,Tryz.results24,go_sem,c0,c1,c2,c3,c4,c5,c6,c7,c8]) rfl ⟨_,_,rfl,HFn.out.1,HFn.out.2⟩
end Go.Proofs.YtlliggfggadidaaGreatDoor
