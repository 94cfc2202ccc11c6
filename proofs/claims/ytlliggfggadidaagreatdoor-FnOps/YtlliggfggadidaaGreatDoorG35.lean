/- Do5 in one text: what each says stands at its head below. -/
import Derived.Test.YtlliggfggadidaaGreatDoorG32
import Derived.Test.YtlliggfggadidaaGreatDoorG20
import Derived.Test.YtlliggfggadidaaGreatDoorG16
import Derived.Test.YtlliggfggadidaaGreatDoorG10
import Derived.Test.YtlliggfggadidaaGreatDoorG12
namespace Go.Proofs.YtlliggfggadidaaGreatDoor
open Go.RowKit
theorem set7_otherD {w:World} {b h o:Nat} {x0 x1 x2 x3 x4 x5 x6:Value} (hb:b≠h):(((((((w.setCell ⟨h,0,none⟩ x0).setCell ⟨h,1,none⟩ x1).setCell ⟨h,2,none⟩ x2).setCell ⟨h,3,none⟩ x3).setCell ⟨h,4,none⟩ x4).setCell ⟨h,5,none⟩ x5).setCell ⟨h,6,none⟩ x6).cell? ⟨b,o,none⟩=w.cell? ⟨b,o,none⟩:=by
 rw [World.cell?_setCell_other _ _ _ _ (by intro e;injection e with e1 _;exact hb e1.symm),World.cell?_setCell_other _ _ _ _ (by intro e;injection e with e1 _;exact hb e1.symm),World.cell?_setCell_other _ _ _ _ (by intro e;injection e with e1 _;exact hb e1.symm),World.cell?_setCell_other _ _ _ _ (by intro e;injection e with e1 _;exact hb e1.symm),World.cell?_setCell_other _ _ _ _ (by intro e;injection e with e1 _;exact hb e1.symm),World.cell?_setCell_other _ _ _ _ (by intro e;injection e with e1 _;exact hb e1.symm),World.cell?_setCell_other _ _ _ _ (by intro e;injection e with e1 _;exact hb e1.symm)]
theorem set2_otherD {w:World} {b h o:Nat} {x0 x1:Value} (hb:b≠h):((w.setCell ⟨h,0,none⟩ x0).setCell ⟨h,1,none⟩ x1).cell? ⟨b,o,none⟩=w.cell? ⟨b,o,none⟩:=by
 rw [World.cell?_setCell_other _ _ _ _ (by intro e;injection e with e1 _;exact hb e1.symm),World.cell?_setCell_other _ _ _ _ (by intro e;injection e with e1 _;exact hb e1.symm)]
set_option linter.unusedSimpArgs false in
set_option maxHeartbeats 16000000 in
set_option maxRecDepth 4000 in
theorem l12DoI {bk ob:Nat} {S T S' T':Nat→Prop} {w:World} {y z u v:Value} (r o:Rf) (h0:totR r≤1048576) (h1:opF o=0) (ho6:Vat6 w bk ob (.int .i64 o.tm) (.int .i64 o.vt) (.int .i64 o.si) (.int .i64 o.st) u v) (hy:RdI S w y r.sn) (hz:RdJ T w z r.lg) (hcp:capE z) (hu:RdI S' w u o.sn) (hv:RdJ T' w v o.lg) (hcv:capE v):
  Calls Tryz.prog 27 #[.agg #[.int .i64 r.tm,.int .i64 r.vt,.int .i64 r.si,.int .i64 r.st,y,z],.pointer (some ⟨bk,ob,none⟩)] w (EndsO8 0 (dyC r o) (dyV r o) (dyR r o).tm (dyR r o).vt (dyR r o).si (dyR r o).st (dyR r o).sn (dyR r o).lg w):=by
 obtain ⟨ay,cy,rfl⟩:=hy.shape
 obtain ⟨az,cz,rfl,_⟩:=hz.shape
 obtain ⟨au,cu,rfl⟩:=hu.shape
 obtain ⟨av,cv,rfl,_⟩:=hv.shape
 have HRo:=hide (room_tot h0)
 have HCp:=hide (fun (w':World) (hb:Below w.heap.size w w')=>l10CopyI r.tm r.vt r.si r.st (hy.later hb) (hz.later hb) HRo.out.1 HRo.out.2.1 HRo.out.2.2)
 have hkd:=op_kind h1
 have hbk:=ho6.lt
 have HO6:=hide ho6
 clear ho6
 rcases hkd with h | h | h | h | h
 ·skip
  obtain ⟨e1,e2,e3⟩:=dy1 (r:=r) h
  have HD:=hide (fun (w':World) (hb:Below w.heap.size w w')=>specSetHard r o.si o.st (hy.later hb) (hz.later hb))
  rw [e1,e2,e3]
  clear e1 e2 e3
  obtain ⟨C,hC⟩: ∃C,shC r o.si o.st=C:=⟨_,rfl⟩
  obtain ⟨N,hN⟩: ∃N,shR r o.si o.st=N:=⟨_,rfl⟩
  rw [hC,hN] at HD
  rw [hC,hN]
  clear hC hN hy hz hu hv hcp hcv h0 h1
  by_cases hC0:C=0
  ·subst hC0
   simp only [if_true]
   generalize r.sn.length=l at*
   generalize r.lg.length=m at*
   generalize o.sn.length=l2 at*
   generalize o.lg.length=m2 at*
   generalize r.tm=a at*
   generalize r.vt=b at*
   generalize r.si=c at*
   generalize r.st=d at*
   generalize o.tm=a2 at*
   generalize o.vt=b2 at*
   generalize o.si=c2 at*
   generalize o.st=d2 at*
   subst h
   have BA0:=below_on (below_alloc w (.cells #[.int .i64 a,.int .i64 b,.int .i64 c,.int .i64 d,.slice ay l cy,.slice az m cz] 27)) (below_alloc _ (.cells #[.int .i64 0,.int .i64 0,.int .i64 0,.int .i64 0,.int .i64 0,.int .i64 0,.int .i64 0,.slice none 0 0,.slice none 0 0] 33))
   have VR0:=(Var6_new w (.int .i64 a) (.int .i64 b) (.int .i64 c) (.int .i64 d) (.slice ay l cy) (.slice az m cz) 27).later (below_alloc _ (.cells #[.int .i64 0,.int .i64 0,.int .i64 0,.int .i64 0,.int .i64 0,.int .i64 0,.int .i64 0,.slice none 0 0,.slice none 0 0] 33))
   have RA0:=Res9.new (below_alloc w (.cells #[.int .i64 a,.int .i64 b,.int .i64 c,.int .i64 d,.slice ay l cy,.slice az m cz] 27)) 33
   rw [World.size_alloc] at RA0
   obtain ⟨W2,hW2⟩: ∃x,((w.alloc (.cells #[.int .i64 a,.int .i64 b,.int .i64 c,.int .i64 d,.slice ay l cy,.slice az m cz] 27)).alloc (.cells #[.int .i64 0,.int .i64 0,.int .i64 0,.int .i64 0,.int .i64 0,.int .i64 0,.int .i64 0,.slice none 0 0,.slice none 0 0] 33))=x:=⟨_,rfl⟩
   have hs2:W2.heap.size=w.heap.size+2:=by rw [← hW2];simp
   rw [hW2] at BA0 VR0 RA0
   have BA2:=hide BA0
   have VA2:=hide VR0
   have RA2:=hide RA0
   clear BA0 VR0 RA0
   go_enter Tryz.func27,Tryz.ntmps27
   go_upto_region 1 with fail
   (try rw [hW2])
   clear hW2
   go_upto_region 2 with fail
   have hbd:=below_alloc W2 (.cells #[.int .i64 0,.int .i64 0,.int .i64 0,.int .i64 0,.int .i64 0,.slice none 0 0,.slice none 0 0] 79)
   have BA:=hide (below_on BA2.out hbd)
   have VA:=hide (VA2.out.later hbd)
   have RA:=hide (RA2.out.later hbd)
   have XA0:=Var7_new W2 (.int .i64 0) (.int .i64 0) (.int .i64 0) (.int .i64 0) (.int .i64 0) (.slice none 0 0) (.slice none 0 0) 79
   rw [hs2] at XA0
   have XA:=hide XA0
   have XF0: ∀q,(W2.alloc (.cells #[.int .i64 0,.int .i64 0,.int .i64 0,.int .i64 0,.int .i64 0,.slice none 0 0,.slice none 0 0] 79)).frozen? ⟨w.heap.size+2,q,none⟩=false:=fun q=>by rw [← hs2];simp [go_sem]
   have XF:=hide XF0
   obtain ⟨W3,hW3⟩: ∃x,W2.alloc (.cells #[.int .i64 0,.int .i64 0,.int .i64 0,.int .i64 0,.int .i64 0,.slice none 0 0,.slice none 0 0] 79)=x:=⟨_,rfl⟩
   have hs3:W3.heap.size=w.heap.size+3:=by rw [← hW3];simp [hs2]
   rw [hW3] at BA VA RA XA XF
   (try rw [hW3])
   (try simp only [hs2])
   have OA:=hide (HO6.out.later BA.out)
   clear hbd XA0 XF0 hW3 BA2 VA2 RA2 hs2 HO6
   obtain ⟨v0,v1,v2,v3,v4,v5⟩:=VA.out
   obtain ⟨p0,p1,p2,p3,p4,p5⟩:=OA.out
   go_upto_region 6 with fail
   refine wp_region_held_drew (S:=fun w'=>w'.cell? ⟨w.heap.size,0,none⟩=some (.int .i64 a)∧w'.cell? ⟨w.heap.size,1,none⟩=some (.int .i64 b)∧w'.cell? ⟨w.heap.size,2,none⟩=some (.int .i64 c)∧w'.cell? ⟨w.heap.size,3,none⟩=some (.int .i64 d)∧w'.cell? ⟨w.heap.size,4,none⟩=some (.slice ay l cy)∧w'.cell? ⟨w.heap.size,5,none⟩=some (.slice az m cz)∧w'.cell? ⟨bk,ob,none⟩=some (.int .i64 1)∧w'.cell? ⟨bk,ob+1,none⟩=some (.int .i64 b2)∧w'.cell? ⟨bk,ob+2,none⟩=some (.int .i64 c2)∧w'.cell? ⟨bk,ob+3,none⟩=some (.int .i64 d2)∧w'.cell? ⟨bk,ob+4,none⟩=some (.slice au l2 cu)∧w'.cell? ⟨bk,ob+5,none⟩=some (.slice av m2 cv)) (by kernel_rfl) ⟨v0,v1,v2,v3,v4,v5,p0,p1,p2,p3,p4,p5⟩ (fun hHeld0=>?_)
   refine forgetH (fun wx=>(wx.cell? ⟨w.heap.size,0,none⟩=some (.int .i64 a)∧wx.cell? ⟨w.heap.size,1,none⟩=some (.int .i64 b)∧wx.cell? ⟨w.heap.size,2,none⟩=some (.int .i64 c)∧wx.cell? ⟨w.heap.size,3,none⟩=some (.int .i64 d)∧wx.cell? ⟨w.heap.size,4,none⟩=some (.slice ay l cy)∧wx.cell? ⟨w.heap.size,5,none⟩=some (.slice az m cz)∧wx.cell? ⟨bk,ob,none⟩=some (.int .i64 1)∧wx.cell? ⟨bk,ob+1,none⟩=some (.int .i64 b2)∧wx.cell? ⟨bk,ob+2,none⟩=some (.int .i64 c2)∧wx.cell? ⟨bk,ob+3,none⟩=some (.int .i64 d2)∧wx.cell? ⟨bk,ob+4,none⟩=some (.slice au l2 cu)∧wx.cell? ⟨bk,ob+5,none⟩=some (.slice av m2 cv))∧Below W3.heap.size W3 wx) ⟨hHeld0,below_drewN W3 1⟩ ?_
   clear hHeld0 v0 v1 v2 v3 v4 v5 p0 p1 p2 p3 p4 p5
   rintro X0 ⟨hHeld,hbx⟩
   obtain ⟨P0,P1,P2,P3,P4,P5,P6,P7,P8,P9,P10,P11⟩:=id hHeld
   have hx0:=hbx.size
   have BX:=hide (below_on BA.out hbx)
   have RX:=hide (RA.out.later hbx)
   have XX:=hide (XA.out.later hbx)
   have XFX:Hid (∀q,X0.frozen? ⟨w.heap.size+2,q,none⟩=false):=fun q=>((bcell hbx).2 _ _ XA.out.lt).trans (XF.out q)
   clear hbx BA VA RA XA OA XF
   refine wpAnyH_take (i:=0) (v:=?vt1) rfl (by kernel_rfl) (by kernel_rfl) (by kernel_rfl) (fun _ _ _ h=>h) (Or.inl ⟨by rfl,?ht1⟩) hHeld ?rt1
   case ht1=>intro w9 hSw;(try dsimp only at hSw);first | (go_simp;done) | (go_simp;with_reducible rfl)
   try simp only [Act.put,List.setIfInBounds_toArray,List.set_cons_zero,List.set_cons_succ,List.getElem_toArray,List.getElem_cons_zero,List.getElem_cons_succ]
   refine wpAnyH_take (i:=1) (v:=?vt2) rfl (by kernel_rfl) (by kernel_rfl) (by kernel_rfl) (fun _ _ _ h=>h) (Or.inl ⟨by rfl,?ht2⟩) hHeld ?rt2
   case ht2=>intro w9 hSw;(try dsimp only at hSw);first | (go_simp;done) | (go_simp;with_reducible rfl)
   try simp only [Act.put,List.setIfInBounds_toArray,List.set_cons_zero,List.set_cons_succ,List.getElem_toArray,List.getElem_cons_zero,List.getElem_cons_succ]
   refine wpAnyH_take (i:=2) (v:=?vt3) rfl (by kernel_rfl) (by kernel_rfl) (by kernel_rfl) (fun _ _ _ h=>h) (Or.inl ⟨by rfl,?ht3⟩) hHeld ?rt3
   case ht3=>intro w9 hSw;(try dsimp only at hSw);first | (go_simp;done) | (go_simp;with_reducible rfl)
   try simp only [Act.put,List.setIfInBounds_toArray,List.set_cons_zero,List.set_cons_succ,List.getElem_toArray,List.getElem_cons_zero,List.getElem_cons_succ]
   refine wpAnyH_take (i:=3) (v:=?vt4) rfl (by kernel_rfl) (by kernel_rfl) (by kernel_rfl) (fun _ _ _ h=>h) (Or.inl ⟨by rfl,?ht4⟩) hHeld ?rt4
   case ht4=>intro w9 hSw;(try dsimp only at hSw);first | (go_simp;done) | (go_simp;with_reducible rfl)
   try simp only [Act.put,List.setIfInBounds_toArray,List.set_cons_zero,List.set_cons_succ,List.getElem_toArray,List.getElem_cons_zero,List.getElem_cons_succ]
   refine wpAnyH_take (i:=4) (v:=?vt5) rfl (by kernel_rfl) (by kernel_rfl) (by kernel_rfl) (fun _ _ _ h=>h) (Or.inl ⟨by rfl,?ht5⟩) hHeld ?rt5
   case ht5=>intro w9 hSw;(try dsimp only at hSw);first | (go_simp;done) | (go_simp;with_reducible rfl)
   try simp only [Act.put,List.setIfInBounds_toArray,List.set_cons_zero,List.set_cons_succ,List.getElem_toArray,List.getElem_cons_zero,List.getElem_cons_succ]
   refine wpAnyH_take (i:=5) (v:=?vt6) rfl (by kernel_rfl) (by kernel_rfl) (by kernel_rfl) (fun _ _ _ h=>h) (Or.inl ⟨by rfl,?ht6⟩) hHeld ?rt6
   case ht6=>intro w9 hSw;(try dsimp only at hSw);first | (go_simp;done) | (go_simp;with_reducible rfl)
   try simp only [Act.put,List.setIfInBounds_toArray,List.set_cons_zero,List.set_cons_succ,List.getElem_toArray,List.getElem_cons_zero,List.getElem_cons_succ]
   refine wpAnyH_take (i:=6) (v:=?vt7) rfl (by kernel_rfl) (by kernel_rfl) (by kernel_rfl) (fun _ _ _ h=>h) (Or.inl ⟨by rfl,?ht7⟩) hHeld ?rt7
   case ht7=>intro w9 hSw;(try dsimp only at hSw);first | (go_simp;done) | (go_simp;with_reducible rfl)
   try simp only [Act.put,List.setIfInBounds_toArray,List.set_cons_zero,List.set_cons_succ,List.getElem_toArray,List.getElem_cons_zero,List.getElem_cons_succ]
   refine wpAnyH_take (i:=7) (v:=?vt8) rfl (by kernel_rfl) (by kernel_rfl) (by kernel_rfl) (fun _ _ _ h=>h) (Or.inl ⟨by rfl,?ht8⟩) hHeld ?rt8
   case ht8=>intro w9 hSw;(try dsimp only at hSw);first | (go_simp;done) | (go_simp;with_reducible rfl)
   try simp only [Act.put,List.setIfInBounds_toArray,List.set_cons_zero,List.set_cons_succ,List.getElem_toArray,List.getElem_cons_zero,List.getElem_cons_succ]
   refine wpAnyH_take (i:=8) (v:=?vt9) rfl (by kernel_rfl) (by kernel_rfl) (by kernel_rfl) (fun _ _ _ h=>h) (Or.inl ⟨by rfl,?ht9⟩) hHeld ?rt9
   case ht9=>intro w9 hSw;(try dsimp only at hSw);first | (go_simp;done) | (go_simp;with_reducible rfl)
   try simp only [Act.put,List.setIfInBounds_toArray,List.set_cons_zero,List.set_cons_succ,List.getElem_toArray,List.getElem_cons_zero,List.getElem_cons_succ]
   refine wpAnyH_ready (rs:=[9]) (by kernel_rfl) (by simp) (AllReadyH.cons rfl (fun K hK=>?_) (AllReadyH.nil))
   go_simp
   go_at_call 45
   refine (HD.out _ BX.out).mono ?_
   rintro e X1 ⟨y1,z1,rfl,hb,ho⟩
   obtain ⟨a1,k1,g1,j1,rfl,rfl⟩:=ho.shape
   have Q0:=cell_later hb P0
   have Q1:=cell_later hb P1
   have Q2:=cell_later hb P2
   have Q3:=cell_later hb P3
   have Q4:=cell_later hb P4
   have Q5:=cell_later hb P5
   have Q6:=cell_later hb P6
   have Q7:=cell_later hb P7
   have Q8:=cell_later hb P8
   have Q9:=cell_later hb P9
   have Q10:=cell_later hb P10
   have Q11:=cell_later hb P11
   refine hK.out _ _ ⟨Q0,Q1,Q2,Q3,Q4,Q5,Q6,Q7,Q8,Q9,Q10,Q11⟩ (fun _=>?_)
   clear hK K HD
   try simp only [Act.put,List.setIfInBounds_toArray,List.set_cons_zero,List.set_cons_succ,List.getElem_toArray,List.getElem_cons_zero,List.getElem_cons_succ]
   have BY:=hide (below_on BX.out hb)
   have RY:=hide (RX.out.later hb)
   have XY:=hide (XX.out.later hb)
   have XFY:Hid (∀q,X1.frozen? ⟨w.heap.size+2,q,none⟩=false):=fun q=>((bcell hb).2 _ _ XX.out.lt).trans (XFX.out q)
   have IY:=hide ho
   have hx1:=hb.size
   clear hb ho hHeld BX RX XX XFX P0 P1 P2 P3 P4 P5 P6 P7 P8 P9 P10 P11
   obtain ⟨x0,x1,x2,x3,x4,x5,x6⟩:=XY.out
   have e0:=XFY.out 0
   have e1:=XFY.out 1
   have e2:=XFY.out 2
   have e3:=XFY.out 3
   have e4:=XFY.out 4
   have e5:=XFY.out 5
   have e6:=XFY.out 6
   refine wpAnyH_ready (rs:=[10]) (by kernel_rfl) (by simp) (AllReadyH.cons rfl (fun K hK=>?_) (AllReadyH.nil))
   go_simp
   have hn0:w.heap.size≠w.heap.size+2:=by omega
   have hn1:bk≠w.heap.size+2:=by omega
   refine hK.out _ _ ⟨(set7_otherD hn0).trans Q0,(set7_otherD hn0).trans Q1,(set7_otherD hn0).trans Q2,(set7_otherD hn0).trans Q3,(set7_otherD hn0).trans Q4,(set7_otherD hn0).trans Q5,(set7_otherD hn1).trans Q6,(set7_otherD hn1).trans Q7,(set7_otherD hn1).trans Q8,(set7_otherD hn1).trans Q9,(set7_otherD hn1).trans Q10,(set7_otherD hn1).trans Q11⟩ (fun _=>?_)
   clear hK K
   try simp only [Act.put,List.setIfInBounds_toArray,List.set_cons_zero,List.set_cons_succ,List.getElem_toArray,List.getElem_cons_zero,List.getElem_cons_succ]
   refine wpAnyH_done (by kernel_rfl) ?_ _
   refine forgetX (fun W5=>Var7 W5 (w.heap.size+2) (.int .i64 0) (.int .i64 N.tm) (.int .i64 N.vt) (.int .i64 N.si) (.int .i64 N.st) (.slice a1 N.sn.length k1) (.slice g1 N.lg.length j1)∧Var6 W5 w.heap.size (.int .i64 a) (.int .i64 b) (.int .i64 c) (.int .i64 d) (.slice ay l cy) (.slice az m cz)∧Res9 w W5 (w.heap.size+1)∧(∃lo,w.heap.size+2<lo∧IvR lo W5.heap.size W5 (.slice a1 N.sn.length k1) (.slice g1 N.lg.length j1) N.sn N.lg)) ?sc1True ?_
   case sc1True=>
    have hw5:Wr (fun x=>x=w.heap.size+2) X1 (((((((X1.setCell ⟨w.heap.size+2,0,none⟩ (.int .i64 0)).setCell ⟨w.heap.size+2,1,none⟩ (.int .i64 N.tm)).setCell ⟨w.heap.size+2,2,none⟩ (.int .i64 N.vt)).setCell ⟨w.heap.size+2,3,none⟩ (.int .i64 N.si)).setCell ⟨w.heap.size+2,4,none⟩ (.int .i64 N.st)).setCell ⟨w.heap.size+2,5,none⟩ (.slice a1 N.sn.length k1)).setCell ⟨w.heap.size+2,6,none⟩ (.slice g1 N.lg.length j1)):=(Wr.setCell (p:=⟨w.heap.size+2,6,none⟩) (Wr.setCell (p:=⟨w.heap.size+2,5,none⟩) (Wr.setCell (p:=⟨w.heap.size+2,4,none⟩) (Wr.setCell (p:=⟨w.heap.size+2,3,none⟩) (Wr.setCell (p:=⟨w.heap.size+2,2,none⟩) (Wr.setCell (p:=⟨w.heap.size+2,1,none⟩) (Wr.setCell (p:=⟨w.heap.size+2,0,none⟩) (Wr.refl (fun x=>x=w.heap.size+2) _) rfl (.int .i64 0)) rfl (.int .i64 N.tm)) rfl (.int .i64 N.vt)) rfl (.int .i64 N.si)) rfl (.int .i64 N.st)) rfl (.slice a1 N.sn.length k1)) rfl (.slice g1 N.lg.length j1))
    exact ⟨⟨by simp [go_sem,x0],by simp [go_sem,x1],by simp [go_sem,x2],by simp [go_sem,x3],by simp [go_sem,x4],by simp [go_sem,x5],by simp [go_sem,x6]⟩,⟨(set7_otherD hn0).trans Q0,(set7_otherD hn0).trans Q1,(set7_otherD hn0).trans Q2,(set7_otherD hn0).trans Q3,(set7_otherD hn0).trans Q4,(set7_otherD hn0).trans Q5⟩,RY.out.wr hw5 (by omega) (fun b hb=>by omega),X0.heap.size,by omega,(IY.out.wr hw5 (fun b h1 h2 e=>by omega)).up (Nat.le_refl _) hw5.size⟩
   clear Q0 Q1 Q2 Q3 Q4 Q5 Q6 Q7 Q8 Q9 Q10 Q11 x0 x1 x2 x3 x4 x5 x6 e0 e1 e2 e3 e4 e5 e6 hn0 hn1 BY RY XY XFY IY
   rintro W5 ⟨N7,V6,R9,lo,hlo,I5⟩
   have HN7:=hide N7
   have HV6:=hide V6
   have HR9:=hide R9
   have HI5:=hide I5
   obtain ⟨n0,n1,n2,n3,n4,n5,n6⟩:=N7
   clear V6 R9 I5
   have HFn:=hide (ret_op (w:=w) (r:=w.heap.size+1) (x0:=.int .i64 0) (x1:=.int .i64 0) (x2:=.int .i64 0) (x3:=.int .i64 N.tm) (x4:=.int .i64 N.vt) (x5:=.int .i64 N.si) (x6:=.int .i64 N.st) HR9.out.below HR9.out.ge HI5.out (by omega))
   obtain ⟨_,⟨c0,c1,c2,c3,c4,c5,c6,c7,c8⟩,F,_⟩:=HR9.out
   have f0:=F 0
   have f1:=F 1
   have f2:=F 2
   have f3:=F 3
   have f4:=F 4
   have f5:=F 5
   have f6:=F 6
   have f7:=F 7
   have f8:=F 8
   clear F
   go_wp2
   refine bodyPost_ret (v:=.agg #[.int .i64 0,.int .i64 0,.int .i64 0,.int .i64 N.tm,.int .i64 N.vt,.int .i64 N.si,.int .i64 N.st,.slice a1 N.sn.length k1,.slice g1 N.lg.length j1]) (by simp [results,Tryz.results27,go_sem,c0,c1,c2,c3,c4,c5,c6,c7,c8]) rfl ⟨_,_,rfl,HFn.out.1,HFn.out.2⟩
  ·simp only [if_neg hC0]
   have hCb:(C==0)=false:=by simpa using hC0
   have hCc:(C !=0)=true:=by simp [hC0]
   generalize r.sn.length=l at*
   generalize r.lg.length=m at*
   generalize o.sn.length=l2 at*
   generalize o.lg.length=m2 at*
   generalize r.tm=a at*
   generalize r.vt=b at*
   generalize r.si=c at*
   generalize r.st=d at*
   generalize o.tm=a2 at*
   generalize o.vt=b2 at*
   generalize o.si=c2 at*
   generalize o.st=d2 at*
   subst h
   have BA0:=below_on (below_alloc w (.cells #[.int .i64 a,.int .i64 b,.int .i64 c,.int .i64 d,.slice ay l cy,.slice az m cz] 27)) (below_alloc _ (.cells #[.int .i64 0,.int .i64 0,.int .i64 0,.int .i64 0,.int .i64 0,.int .i64 0,.int .i64 0,.slice none 0 0,.slice none 0 0] 33))
   have VR0:=(Var6_new w (.int .i64 a) (.int .i64 b) (.int .i64 c) (.int .i64 d) (.slice ay l cy) (.slice az m cz) 27).later (below_alloc _ (.cells #[.int .i64 0,.int .i64 0,.int .i64 0,.int .i64 0,.int .i64 0,.int .i64 0,.int .i64 0,.slice none 0 0,.slice none 0 0] 33))
   have RA0:=Res9.new (below_alloc w (.cells #[.int .i64 a,.int .i64 b,.int .i64 c,.int .i64 d,.slice ay l cy,.slice az m cz] 27)) 33
   rw [World.size_alloc] at RA0
   obtain ⟨W2,hW2⟩: ∃x,((w.alloc (.cells #[.int .i64 a,.int .i64 b,.int .i64 c,.int .i64 d,.slice ay l cy,.slice az m cz] 27)).alloc (.cells #[.int .i64 0,.int .i64 0,.int .i64 0,.int .i64 0,.int .i64 0,.int .i64 0,.int .i64 0,.slice none 0 0,.slice none 0 0] 33))=x:=⟨_,rfl⟩
   have hs2:W2.heap.size=w.heap.size+2:=by rw [← hW2];simp
   rw [hW2] at BA0 VR0 RA0
   have BA2:=hide BA0
   have VA2:=hide VR0
   have RA2:=hide RA0
   clear BA0 VR0 RA0
   go_enter Tryz.func27,Tryz.ntmps27
   go_upto_region 1 with fail
   (try rw [hW2])
   clear hW2
   go_upto_region 2 with fail
   have hbd:=below_alloc W2 (.cells #[.int .i64 0,.int .i64 0,.int .i64 0,.int .i64 0,.int .i64 0,.slice none 0 0,.slice none 0 0] 79)
   have BA:=hide (below_on BA2.out hbd)
   have VA:=hide (VA2.out.later hbd)
   have RA:=hide (RA2.out.later hbd)
   have XA0:=Var7_new W2 (.int .i64 0) (.int .i64 0) (.int .i64 0) (.int .i64 0) (.int .i64 0) (.slice none 0 0) (.slice none 0 0) 79
   rw [hs2] at XA0
   have XA:=hide XA0
   have XF0: ∀q,(W2.alloc (.cells #[.int .i64 0,.int .i64 0,.int .i64 0,.int .i64 0,.int .i64 0,.slice none 0 0,.slice none 0 0] 79)).frozen? ⟨w.heap.size+2,q,none⟩=false:=fun q=>by rw [← hs2];simp [go_sem]
   have XF:=hide XF0
   obtain ⟨W3,hW3⟩: ∃x,W2.alloc (.cells #[.int .i64 0,.int .i64 0,.int .i64 0,.int .i64 0,.int .i64 0,.slice none 0 0,.slice none 0 0] 79)=x:=⟨_,rfl⟩
   have hs3:W3.heap.size=w.heap.size+3:=by rw [← hW3];simp [hs2]
   rw [hW3] at BA VA RA XA XF
   (try rw [hW3])
   (try simp only [hs2])
   have OA:=hide (HO6.out.later BA.out)
   clear hbd XA0 XF0 hW3 BA2 VA2 RA2 hs2 HO6
   obtain ⟨v0,v1,v2,v3,v4,v5⟩:=VA.out
   obtain ⟨p0,p1,p2,p3,p4,p5⟩:=OA.out
   go_upto_region 6 with fail
   refine wp_region_held_drew (S:=fun w'=>w'.cell? ⟨w.heap.size,0,none⟩=some (.int .i64 a)∧w'.cell? ⟨w.heap.size,1,none⟩=some (.int .i64 b)∧w'.cell? ⟨w.heap.size,2,none⟩=some (.int .i64 c)∧w'.cell? ⟨w.heap.size,3,none⟩=some (.int .i64 d)∧w'.cell? ⟨w.heap.size,4,none⟩=some (.slice ay l cy)∧w'.cell? ⟨w.heap.size,5,none⟩=some (.slice az m cz)∧w'.cell? ⟨bk,ob,none⟩=some (.int .i64 1)∧w'.cell? ⟨bk,ob+1,none⟩=some (.int .i64 b2)∧w'.cell? ⟨bk,ob+2,none⟩=some (.int .i64 c2)∧w'.cell? ⟨bk,ob+3,none⟩=some (.int .i64 d2)∧w'.cell? ⟨bk,ob+4,none⟩=some (.slice au l2 cu)∧w'.cell? ⟨bk,ob+5,none⟩=some (.slice av m2 cv)) (by kernel_rfl) ⟨v0,v1,v2,v3,v4,v5,p0,p1,p2,p3,p4,p5⟩ (fun hHeld0=>?_)
   refine forgetH (fun wx=>(wx.cell? ⟨w.heap.size,0,none⟩=some (.int .i64 a)∧wx.cell? ⟨w.heap.size,1,none⟩=some (.int .i64 b)∧wx.cell? ⟨w.heap.size,2,none⟩=some (.int .i64 c)∧wx.cell? ⟨w.heap.size,3,none⟩=some (.int .i64 d)∧wx.cell? ⟨w.heap.size,4,none⟩=some (.slice ay l cy)∧wx.cell? ⟨w.heap.size,5,none⟩=some (.slice az m cz)∧wx.cell? ⟨bk,ob,none⟩=some (.int .i64 1)∧wx.cell? ⟨bk,ob+1,none⟩=some (.int .i64 b2)∧wx.cell? ⟨bk,ob+2,none⟩=some (.int .i64 c2)∧wx.cell? ⟨bk,ob+3,none⟩=some (.int .i64 d2)∧wx.cell? ⟨bk,ob+4,none⟩=some (.slice au l2 cu)∧wx.cell? ⟨bk,ob+5,none⟩=some (.slice av m2 cv))∧Below W3.heap.size W3 wx) ⟨hHeld0,below_drewN W3 1⟩ ?_
   clear hHeld0 v0 v1 v2 v3 v4 v5 p0 p1 p2 p3 p4 p5
   rintro X0 ⟨hHeld,hbx⟩
   obtain ⟨P0,P1,P2,P3,P4,P5,P6,P7,P8,P9,P10,P11⟩:=id hHeld
   have hx0:=hbx.size
   have BX:=hide (below_on BA.out hbx)
   have RX:=hide (RA.out.later hbx)
   have XX:=hide (XA.out.later hbx)
   have XFX:Hid (∀q,X0.frozen? ⟨w.heap.size+2,q,none⟩=false):=fun q=>((bcell hbx).2 _ _ XA.out.lt).trans (XF.out q)
   clear hbx BA VA RA XA OA XF
   refine wpAnyH_take (i:=0) (v:=?vt10) rfl (by kernel_rfl) (by kernel_rfl) (by kernel_rfl) (fun _ _ _ h=>h) (Or.inl ⟨by rfl,?ht10⟩) hHeld ?rt10
   case ht10=>intro w9 hSw;(try dsimp only at hSw);first | (go_simp;done) | (go_simp;with_reducible rfl)
   try simp only [Act.put,List.setIfInBounds_toArray,List.set_cons_zero,List.set_cons_succ,List.getElem_toArray,List.getElem_cons_zero,List.getElem_cons_succ]
   refine wpAnyH_take (i:=1) (v:=?vt11) rfl (by kernel_rfl) (by kernel_rfl) (by kernel_rfl) (fun _ _ _ h=>h) (Or.inl ⟨by rfl,?ht11⟩) hHeld ?rt11
   case ht11=>intro w9 hSw;(try dsimp only at hSw);first | (go_simp;done) | (go_simp;with_reducible rfl)
   try simp only [Act.put,List.setIfInBounds_toArray,List.set_cons_zero,List.set_cons_succ,List.getElem_toArray,List.getElem_cons_zero,List.getElem_cons_succ]
   refine wpAnyH_take (i:=2) (v:=?vt12) rfl (by kernel_rfl) (by kernel_rfl) (by kernel_rfl) (fun _ _ _ h=>h) (Or.inl ⟨by rfl,?ht12⟩) hHeld ?rt12
   case ht12=>intro w9 hSw;(try dsimp only at hSw);first | (go_simp;done) | (go_simp;with_reducible rfl)
   try simp only [Act.put,List.setIfInBounds_toArray,List.set_cons_zero,List.set_cons_succ,List.getElem_toArray,List.getElem_cons_zero,List.getElem_cons_succ]
   refine wpAnyH_take (i:=3) (v:=?vt13) rfl (by kernel_rfl) (by kernel_rfl) (by kernel_rfl) (fun _ _ _ h=>h) (Or.inl ⟨by rfl,?ht13⟩) hHeld ?rt13
   case ht13=>intro w9 hSw;(try dsimp only at hSw);first | (go_simp;done) | (go_simp;with_reducible rfl)
   try simp only [Act.put,List.setIfInBounds_toArray,List.set_cons_zero,List.set_cons_succ,List.getElem_toArray,List.getElem_cons_zero,List.getElem_cons_succ]
   refine wpAnyH_take (i:=4) (v:=?vt14) rfl (by kernel_rfl) (by kernel_rfl) (by kernel_rfl) (fun _ _ _ h=>h) (Or.inl ⟨by rfl,?ht14⟩) hHeld ?rt14
   case ht14=>intro w9 hSw;(try dsimp only at hSw);first | (go_simp;done) | (go_simp;with_reducible rfl)
   try simp only [Act.put,List.setIfInBounds_toArray,List.set_cons_zero,List.set_cons_succ,List.getElem_toArray,List.getElem_cons_zero,List.getElem_cons_succ]
   refine wpAnyH_take (i:=5) (v:=?vt15) rfl (by kernel_rfl) (by kernel_rfl) (by kernel_rfl) (fun _ _ _ h=>h) (Or.inl ⟨by rfl,?ht15⟩) hHeld ?rt15
   case ht15=>intro w9 hSw;(try dsimp only at hSw);first | (go_simp;done) | (go_simp;with_reducible rfl)
   try simp only [Act.put,List.setIfInBounds_toArray,List.set_cons_zero,List.set_cons_succ,List.getElem_toArray,List.getElem_cons_zero,List.getElem_cons_succ]
   refine wpAnyH_take (i:=6) (v:=?vt16) rfl (by kernel_rfl) (by kernel_rfl) (by kernel_rfl) (fun _ _ _ h=>h) (Or.inl ⟨by rfl,?ht16⟩) hHeld ?rt16
   case ht16=>intro w9 hSw;(try dsimp only at hSw);first | (go_simp;done) | (go_simp;with_reducible rfl)
   try simp only [Act.put,List.setIfInBounds_toArray,List.set_cons_zero,List.set_cons_succ,List.getElem_toArray,List.getElem_cons_zero,List.getElem_cons_succ]
   refine wpAnyH_take (i:=7) (v:=?vt17) rfl (by kernel_rfl) (by kernel_rfl) (by kernel_rfl) (fun _ _ _ h=>h) (Or.inl ⟨by rfl,?ht17⟩) hHeld ?rt17
   case ht17=>intro w9 hSw;(try dsimp only at hSw);first | (go_simp;done) | (go_simp;with_reducible rfl)
   try simp only [Act.put,List.setIfInBounds_toArray,List.set_cons_zero,List.set_cons_succ,List.getElem_toArray,List.getElem_cons_zero,List.getElem_cons_succ]
   refine wpAnyH_take (i:=8) (v:=?vt18) rfl (by kernel_rfl) (by kernel_rfl) (by kernel_rfl) (fun _ _ _ h=>h) (Or.inl ⟨by rfl,?ht18⟩) hHeld ?rt18
   case ht18=>intro w9 hSw;(try dsimp only at hSw);first | (go_simp;done) | (go_simp;with_reducible rfl)
   try simp only [Act.put,List.setIfInBounds_toArray,List.set_cons_zero,List.set_cons_succ,List.getElem_toArray,List.getElem_cons_zero,List.getElem_cons_succ]
   refine wpAnyH_ready (rs:=[9]) (by kernel_rfl) (by simp) (AllReadyH.cons rfl (fun K hK=>?_) (AllReadyH.nil))
   go_simp
   go_at_call 45
   refine (HD.out _ BX.out).mono ?_
   rintro e X1 ⟨y1,z1,rfl,hb,ho⟩
   obtain ⟨a1,k1,g1,j1,rfl,rfl⟩:=ho.shape
   have Q0:=cell_later hb P0
   have Q1:=cell_later hb P1
   have Q2:=cell_later hb P2
   have Q3:=cell_later hb P3
   have Q4:=cell_later hb P4
   have Q5:=cell_later hb P5
   have Q6:=cell_later hb P6
   have Q7:=cell_later hb P7
   have Q8:=cell_later hb P8
   have Q9:=cell_later hb P9
   have Q10:=cell_later hb P10
   have Q11:=cell_later hb P11
   refine hK.out _ _ ⟨Q0,Q1,Q2,Q3,Q4,Q5,Q6,Q7,Q8,Q9,Q10,Q11⟩ (fun _=>?_)
   clear hK K HD
   try simp only [Act.put,List.setIfInBounds_toArray,List.set_cons_zero,List.set_cons_succ,List.getElem_toArray,List.getElem_cons_zero,List.getElem_cons_succ]
   have BY:=hide (below_on BX.out hb)
   have RY:=hide (RX.out.later hb)
   have XY:=hide (XX.out.later hb)
   have XFY:Hid (∀q,X1.frozen? ⟨w.heap.size+2,q,none⟩=false):=fun q=>((bcell hb).2 _ _ XX.out.lt).trans (XFX.out q)
   have IY:=hide ho
   have hx1:=hb.size
   clear hb ho hHeld BX RX XX XFX P0 P1 P2 P3 P4 P5 P6 P7 P8 P9 P10 P11
   obtain ⟨x0,x1,x2,x3,x4,x5,x6⟩:=XY.out
   have e0:=XFY.out 0
   have e1:=XFY.out 1
   have e2:=XFY.out 2
   have e3:=XFY.out 3
   have e4:=XFY.out 4
   have e5:=XFY.out 5
   have e6:=XFY.out 6
   refine wpAnyH_ready (rs:=[10]) (by kernel_rfl) (by simp) (AllReadyH.cons rfl (fun K hK=>?_) (AllReadyH.nil))
   go_simp
   have hn0:w.heap.size≠w.heap.size+2:=by omega
   have hn1:bk≠w.heap.size+2:=by omega
   refine hK.out _ _ ⟨(set7_otherD hn0).trans Q0,(set7_otherD hn0).trans Q1,(set7_otherD hn0).trans Q2,(set7_otherD hn0).trans Q3,(set7_otherD hn0).trans Q4,(set7_otherD hn0).trans Q5,(set7_otherD hn1).trans Q6,(set7_otherD hn1).trans Q7,(set7_otherD hn1).trans Q8,(set7_otherD hn1).trans Q9,(set7_otherD hn1).trans Q10,(set7_otherD hn1).trans Q11⟩ (fun _=>?_)
   clear hK K
   try simp only [Act.put,List.setIfInBounds_toArray,List.set_cons_zero,List.set_cons_succ,List.getElem_toArray,List.getElem_cons_zero,List.getElem_cons_succ]
   refine wpAnyH_done (by kernel_rfl) ?_ _
   refine forgetX (fun W5=>Var7 W5 (w.heap.size+2) (.int .i64 C) (.int .i64 N.tm) (.int .i64 N.vt) (.int .i64 N.si) (.int .i64 N.st) (.slice a1 N.sn.length k1) (.slice g1 N.lg.length j1)∧Var6 W5 w.heap.size (.int .i64 a) (.int .i64 b) (.int .i64 c) (.int .i64 d) (.slice ay l cy) (.slice az m cz)∧Res9 w W5 (w.heap.size+1)∧(∃lo,w.heap.size+2<lo∧IvR lo W5.heap.size W5 (.slice a1 N.sn.length k1) (.slice g1 N.lg.length j1) N.sn N.lg)) ?sc1False ?_
   case sc1False=>
    have hw5:Wr (fun x=>x=w.heap.size+2) X1 (((((((X1.setCell ⟨w.heap.size+2,0,none⟩ (.int .i64 C)).setCell ⟨w.heap.size+2,1,none⟩ (.int .i64 N.tm)).setCell ⟨w.heap.size+2,2,none⟩ (.int .i64 N.vt)).setCell ⟨w.heap.size+2,3,none⟩ (.int .i64 N.si)).setCell ⟨w.heap.size+2,4,none⟩ (.int .i64 N.st)).setCell ⟨w.heap.size+2,5,none⟩ (.slice a1 N.sn.length k1)).setCell ⟨w.heap.size+2,6,none⟩ (.slice g1 N.lg.length j1)):=(Wr.setCell (p:=⟨w.heap.size+2,6,none⟩) (Wr.setCell (p:=⟨w.heap.size+2,5,none⟩) (Wr.setCell (p:=⟨w.heap.size+2,4,none⟩) (Wr.setCell (p:=⟨w.heap.size+2,3,none⟩) (Wr.setCell (p:=⟨w.heap.size+2,2,none⟩) (Wr.setCell (p:=⟨w.heap.size+2,1,none⟩) (Wr.setCell (p:=⟨w.heap.size+2,0,none⟩) (Wr.refl (fun x=>x=w.heap.size+2) _) rfl (.int .i64 C)) rfl (.int .i64 N.tm)) rfl (.int .i64 N.vt)) rfl (.int .i64 N.si)) rfl (.int .i64 N.st)) rfl (.slice a1 N.sn.length k1)) rfl (.slice g1 N.lg.length j1))
    exact ⟨⟨by simp [go_sem,x0],by simp [go_sem,x1],by simp [go_sem,x2],by simp [go_sem,x3],by simp [go_sem,x4],by simp [go_sem,x5],by simp [go_sem,x6]⟩,⟨(set7_otherD hn0).trans Q0,(set7_otherD hn0).trans Q1,(set7_otherD hn0).trans Q2,(set7_otherD hn0).trans Q3,(set7_otherD hn0).trans Q4,(set7_otherD hn0).trans Q5⟩,RY.out.wr hw5 (by omega) (fun b hb=>by omega),X0.heap.size,by omega,(IY.out.wr hw5 (fun b h1 h2 e=>by omega)).up (Nat.le_refl _) hw5.size⟩
   clear Q0 Q1 Q2 Q3 Q4 Q5 Q6 Q7 Q8 Q9 Q10 Q11 x0 x1 x2 x3 x4 x5 x6 e0 e1 e2 e3 e4 e5 e6 hn0 hn1 BY RY XY XFY IY
   rintro W5 ⟨N7,V6,R9,lo,hlo,I5⟩
   have HN7:=hide N7
   have HV6:=hide V6
   have HR9:=hide R9
   have HI5:=hide I5
   obtain ⟨n0,n1,n2,n3,n4,n5,n6⟩:=N7
   clear V6 R9 I5
   obtain ⟨v0,v1,v2,v3,v4,v5⟩:=HV6.out
   go_upto_region 14 with fail
   refine wp_region_held_drew (S:=fun w'=>w'.cell? ⟨w.heap.size+2,0,none⟩=some (.int .i64 C)∧w'.cell? ⟨w.heap.size,0,none⟩=some (.int .i64 a)∧w'.cell? ⟨w.heap.size,1,none⟩=some (.int .i64 b)∧w'.cell? ⟨w.heap.size,2,none⟩=some (.int .i64 c)∧w'.cell? ⟨w.heap.size,3,none⟩=some (.int .i64 d)∧w'.cell? ⟨w.heap.size,4,none⟩=some (.slice ay l cy)∧w'.cell? ⟨w.heap.size,5,none⟩=some (.slice az m cz)) (by kernel_rfl) ⟨n0,v0,v1,v2,v3,v4,v5⟩ (fun hHeld0=>?_)
   refine forgetH (fun wx=>(wx.cell? ⟨w.heap.size+2,0,none⟩=some (.int .i64 C)∧wx.cell? ⟨w.heap.size,0,none⟩=some (.int .i64 a)∧wx.cell? ⟨w.heap.size,1,none⟩=some (.int .i64 b)∧wx.cell? ⟨w.heap.size,2,none⟩=some (.int .i64 c)∧wx.cell? ⟨w.heap.size,3,none⟩=some (.int .i64 d)∧wx.cell? ⟨w.heap.size,4,none⟩=some (.slice ay l cy)∧wx.cell? ⟨w.heap.size,5,none⟩=some (.slice az m cz))∧Below W5.heap.size W5 wx) ⟨hHeld0,below_drewN W5 1⟩ ?_
   clear hHeld0
   rintro Y0 ⟨hHeld,hbx⟩
   obtain ⟨P0,P1,P2,P3,P4,P5,P6⟩:=id hHeld
   have RX:=hide (HR9.out.later hbx)
   have hy0:=hbx.size
   clear hbx
   refine wpAnyH_take (i:=0) (v:=?vt19) rfl (by kernel_rfl) (by kernel_rfl) (by kernel_rfl) (fun _ _ _ h=>h) (Or.inl ⟨by rfl,?ht19⟩) hHeld ?rt19
   case ht19=>intro w9 hSw;(try dsimp only at hSw);first | (go_simp;done) | (go_simp;with_reducible rfl)
   try simp only [Act.put,List.setIfInBounds_toArray,List.set_cons_zero,List.set_cons_succ,List.getElem_toArray,List.getElem_cons_zero,List.getElem_cons_succ]
   refine wpAnyH_take (i:=1) (v:=?vt20) rfl (by kernel_rfl) (by kernel_rfl) (by kernel_rfl) (fun _ _ _ h=>h) (Or.inl ⟨by rfl,?ht20⟩) hHeld ?rt20
   case ht20=>intro w9 hSw;(try dsimp only at hSw);first | (go_simp;done) | (go_simp;with_reducible rfl)
   try simp only [Act.put,List.setIfInBounds_toArray,List.set_cons_zero,List.set_cons_succ,List.getElem_toArray,List.getElem_cons_zero,List.getElem_cons_succ]
   refine wpAnyH_take (i:=2) (v:=?vt21) rfl (by kernel_rfl) (by kernel_rfl) (by kernel_rfl) (fun _ _ _ h=>h) (Or.inl ⟨by rfl,?ht21⟩) hHeld ?rt21
   case ht21=>intro w9 hSw;(try dsimp only at hSw);first | (go_simp;done) | (go_simp;with_reducible rfl)
   try simp only [Act.put,List.setIfInBounds_toArray,List.set_cons_zero,List.set_cons_succ,List.getElem_toArray,List.getElem_cons_zero,List.getElem_cons_succ]
   refine wpAnyH_ready (rs:=[3]) (by kernel_rfl) (by simp) (AllReadyH.cons rfl (fun K hK=>?_) (AllReadyH.nil))
   go_simp
   go_at_call 43
   have HCq:=hide (HCp.out _ RX.out.below)
   refine HCq.out.mono ?_
   rintro e Y1 ⟨y7,z7,rfl,hb,ho⟩
   obtain ⟨a7,k7,g7,j7,hy7,hz7⟩:=ho.shape
   subst hy7
   subst hz7
   have Q0:=cell_later hb P0
   have Q1:=cell_later hb P1
   have Q2:=cell_later hb P2
   have Q3:=cell_later hb P3
   have Q4:=cell_later hb P4
   have Q5:=cell_later hb P5
   have Q6:=cell_later hb P6
   refine hK.out _ _ ⟨Q0,Q1,Q2,Q3,Q4,Q5,Q6⟩ (fun _=>?_)
   clear hK K
   try simp only [Act.put,List.setIfInBounds_toArray,List.set_cons_zero,List.set_cons_succ,List.getElem_toArray,List.getElem_cons_zero,List.getElem_cons_succ]
   have RY:=hide (RX.out.later hb)
   have hxr:=RX.out.lt
   have IY:=hide ho
   clear hb ho hHeld P0 P1 P2 P3 P4 P5 P6
   refine wpAnyH_take (i:=4) (v:=?vt22) rfl (by kernel_rfl) (by kernel_rfl) (by kernel_rfl) (fun _ _ _ h=>h) (Or.inl ⟨by rfl,?ht22⟩) ⟨Q0,Q1,Q2,Q3,Q4,Q5,Q6⟩ ?rt22
   case ht22=>intro w9 hSw;(try dsimp only at hSw);first | (go_simp;done) | (go_simp;with_reducible rfl)
   try simp only [Act.put,List.setIfInBounds_toArray,List.set_cons_zero,List.set_cons_succ,List.getElem_toArray,List.getElem_cons_zero,List.getElem_cons_succ]
   have HFn:=hide (ret_op (w:=w) (r:=w.heap.size+1) (x0:=.int .i64 0) (x1:=.int .i64 C) (x2:=.int .i64 0) (x3:=.int .i64 a) (x4:=.int .i64 b) (x5:=.int .i64 c) (x6:=.int .i64 d) RY.out.below RY.out.ge IY.out (by omega))
   obtain ⟨_,⟨c0,c1,c2,c3,c4,c5,c6,c7,c8⟩,F,_⟩:=RY.out
   have f0:=F 0
   have f1:=F 1
   have f2:=F 2
   have f3:=F 3
   have f4:=F 4
   have f5:=F 5
   have f6:=F 6
   have f7:=F 7
   have f8:=F 8
   clear F
   refine wpAnyH_ready (rs:=[5]) (by kernel_rfl) (by simp) (AllReadyH.cons rfl (fun K hK=>?_) (AllReadyH.nil))
   go_simp
   refine hK.out _ _ ⟨(set9_other (by omega)).trans Q0,(set9_other (by omega)).trans Q1,(set9_other (by omega)).trans Q2,(set9_other (by omega)).trans Q3,(set9_other (by omega)).trans Q4,(set9_other (by omega)).trans Q5,(set9_other (by omega)).trans Q6⟩ (fun _=>?_)
   clear hK K
   try simp only [Act.put,List.setIfInBounds_toArray,List.set_cons_zero,List.set_cons_succ,List.getElem_toArray,List.getElem_cons_zero,List.getElem_cons_succ]
   refine wpAnyH_done (by kernel_rfl) ?_ _
   go_wp2
   refine bodyPost_ret (v:=.agg #[.int .i64 0,.int .i64 C,.int .i64 0,.int .i64 a,.int .i64 b,.int .i64 c,.int .i64 d,.slice a7 r.sn.length k7,.slice g7 r.lg.length j7]) (by simp [results,Tryz.results27,go_sem,c0,c1,c2,c3,c4,c5,c6,c7,c8]) rfl ⟨_,_,rfl,HFn.out.1,HFn.out.2⟩
 ·skip
  obtain ⟨e1,e2,e3⟩:=dy2 (r:=r) h
  have HD:=hide (fun (w':World) (hb:Below w.heap.size w w')=>specAppendRaft r o.vt o.si (hy.later hb) (hz.later hb) hcp (hv.later hb) hcv)
  rw [e1,e2,e3]
  clear e1 e2 e3
  obtain ⟨C,hC⟩: ∃C,apRC r o.vt o.si o.lg=C:=⟨_,rfl⟩
  obtain ⟨N,hN⟩: ∃N,apRR r o.vt o.si o.lg=N:=⟨_,rfl⟩
  rw [hC,hN] at HD
  rw [hC,hN]
  clear hC hN hy hz hu hv hcp hcv h0 h1
  by_cases hC0:C=0
  ·subst hC0
   simp only [if_true]
   generalize r.sn.length=l at*
   generalize r.lg.length=m at*
   generalize o.sn.length=l2 at*
   generalize o.lg.length=m2 at*
   generalize r.tm=a at*
   generalize r.vt=b at*
   generalize r.si=c at*
   generalize r.st=d at*
   generalize o.tm=a2 at*
   generalize o.vt=b2 at*
   generalize o.si=c2 at*
   generalize o.st=d2 at*
   subst h
   have BA0:=below_on (below_alloc w (.cells #[.int .i64 a,.int .i64 b,.int .i64 c,.int .i64 d,.slice ay l cy,.slice az m cz] 27)) (below_alloc _ (.cells #[.int .i64 0,.int .i64 0,.int .i64 0,.int .i64 0,.int .i64 0,.int .i64 0,.int .i64 0,.slice none 0 0,.slice none 0 0] 33))
   have VR0:=(Var6_new w (.int .i64 a) (.int .i64 b) (.int .i64 c) (.int .i64 d) (.slice ay l cy) (.slice az m cz) 27).later (below_alloc _ (.cells #[.int .i64 0,.int .i64 0,.int .i64 0,.int .i64 0,.int .i64 0,.int .i64 0,.int .i64 0,.slice none 0 0,.slice none 0 0] 33))
   have RA0:=Res9.new (below_alloc w (.cells #[.int .i64 a,.int .i64 b,.int .i64 c,.int .i64 d,.slice ay l cy,.slice az m cz] 27)) 33
   rw [World.size_alloc] at RA0
   obtain ⟨W2,hW2⟩: ∃x,((w.alloc (.cells #[.int .i64 a,.int .i64 b,.int .i64 c,.int .i64 d,.slice ay l cy,.slice az m cz] 27)).alloc (.cells #[.int .i64 0,.int .i64 0,.int .i64 0,.int .i64 0,.int .i64 0,.int .i64 0,.int .i64 0,.slice none 0 0,.slice none 0 0] 33))=x:=⟨_,rfl⟩
   have hs2:W2.heap.size=w.heap.size+2:=by rw [← hW2];simp
   rw [hW2] at BA0 VR0 RA0
   have BA2:=hide BA0
   have VA2:=hide VR0
   have RA2:=hide RA0
   clear BA0 VR0 RA0
   go_enter Tryz.func27,Tryz.ntmps27
   go_upto_region 1 with fail
   (try rw [hW2])
   clear hW2
   go_upto_region 2 with fail
   have hbd:=below_alloc W2 (.cells #[.int .i64 0,.int .i64 0,.int .i64 0,.int .i64 0,.int .i64 0,.slice none 0 0,.slice none 0 0] 79)
   have BA:=hide (below_on BA2.out hbd)
   have VA:=hide (VA2.out.later hbd)
   have RA:=hide (RA2.out.later hbd)
   have XA0:=Var7_new W2 (.int .i64 0) (.int .i64 0) (.int .i64 0) (.int .i64 0) (.int .i64 0) (.slice none 0 0) (.slice none 0 0) 79
   rw [hs2] at XA0
   have XA:=hide XA0
   have XF0: ∀q,(W2.alloc (.cells #[.int .i64 0,.int .i64 0,.int .i64 0,.int .i64 0,.int .i64 0,.slice none 0 0,.slice none 0 0] 79)).frozen? ⟨w.heap.size+2,q,none⟩=false:=fun q=>by rw [← hs2];simp [go_sem]
   have XF:=hide XF0
   obtain ⟨W3,hW3⟩: ∃x,W2.alloc (.cells #[.int .i64 0,.int .i64 0,.int .i64 0,.int .i64 0,.int .i64 0,.slice none 0 0,.slice none 0 0] 79)=x:=⟨_,rfl⟩
   have hs3:W3.heap.size=w.heap.size+3:=by rw [← hW3];simp [hs2]
   rw [hW3] at BA VA RA XA XF
   (try rw [hW3])
   (try simp only [hs2])
   have OA:=hide (HO6.out.later BA.out)
   clear hbd XA0 XF0 hW3 BA2 VA2 RA2 hs2 HO6
   obtain ⟨v0,v1,v2,v3,v4,v5⟩:=VA.out
   obtain ⟨p0,p1,p2,p3,p4,p5⟩:=OA.out
   go_upto_region 8 with fail
   refine wp_region_held_drew (S:=fun w'=>w'.cell? ⟨w.heap.size,0,none⟩=some (.int .i64 a)∧w'.cell? ⟨w.heap.size,1,none⟩=some (.int .i64 b)∧w'.cell? ⟨w.heap.size,2,none⟩=some (.int .i64 c)∧w'.cell? ⟨w.heap.size,3,none⟩=some (.int .i64 d)∧w'.cell? ⟨w.heap.size,4,none⟩=some (.slice ay l cy)∧w'.cell? ⟨w.heap.size,5,none⟩=some (.slice az m cz)∧w'.cell? ⟨bk,ob,none⟩=some (.int .i64 2)∧w'.cell? ⟨bk,ob+1,none⟩=some (.int .i64 b2)∧w'.cell? ⟨bk,ob+2,none⟩=some (.int .i64 c2)∧w'.cell? ⟨bk,ob+3,none⟩=some (.int .i64 d2)∧w'.cell? ⟨bk,ob+4,none⟩=some (.slice au l2 cu)∧w'.cell? ⟨bk,ob+5,none⟩=some (.slice av m2 cv)) (by kernel_rfl) ⟨v0,v1,v2,v3,v4,v5,p0,p1,p2,p3,p4,p5⟩ (fun hHeld0=>?_)
   refine forgetH (fun wx=>(wx.cell? ⟨w.heap.size,0,none⟩=some (.int .i64 a)∧wx.cell? ⟨w.heap.size,1,none⟩=some (.int .i64 b)∧wx.cell? ⟨w.heap.size,2,none⟩=some (.int .i64 c)∧wx.cell? ⟨w.heap.size,3,none⟩=some (.int .i64 d)∧wx.cell? ⟨w.heap.size,4,none⟩=some (.slice ay l cy)∧wx.cell? ⟨w.heap.size,5,none⟩=some (.slice az m cz)∧wx.cell? ⟨bk,ob,none⟩=some (.int .i64 2)∧wx.cell? ⟨bk,ob+1,none⟩=some (.int .i64 b2)∧wx.cell? ⟨bk,ob+2,none⟩=some (.int .i64 c2)∧wx.cell? ⟨bk,ob+3,none⟩=some (.int .i64 d2)∧wx.cell? ⟨bk,ob+4,none⟩=some (.slice au l2 cu)∧wx.cell? ⟨bk,ob+5,none⟩=some (.slice av m2 cv))∧Below W3.heap.size W3 wx) ⟨hHeld0,below_drewN W3 1⟩ ?_
   clear hHeld0 v0 v1 v2 v3 v4 v5 p0 p1 p2 p3 p4 p5
   rintro X0 ⟨hHeld,hbx⟩
   obtain ⟨P0,P1,P2,P3,P4,P5,P6,P7,P8,P9,P10,P11⟩:=id hHeld
   have hx0:=hbx.size
   have BX:=hide (below_on BA.out hbx)
   have RX:=hide (RA.out.later hbx)
   have XX:=hide (XA.out.later hbx)
   have XFX:Hid (∀q,X0.frozen? ⟨w.heap.size+2,q,none⟩=false):=fun q=>((bcell hbx).2 _ _ XA.out.lt).trans (XF.out q)
   clear hbx BA VA RA XA OA XF
   refine wpAnyH_take (i:=0) (v:=?vt23) rfl (by kernel_rfl) (by kernel_rfl) (by kernel_rfl) (fun _ _ _ h=>h) (Or.inl ⟨by rfl,?ht23⟩) hHeld ?rt23
   case ht23=>intro w9 hSw;(try dsimp only at hSw);first | (go_simp;done) | (go_simp;with_reducible rfl)
   try simp only [Act.put,List.setIfInBounds_toArray,List.set_cons_zero,List.set_cons_succ,List.getElem_toArray,List.getElem_cons_zero,List.getElem_cons_succ]
   refine wpAnyH_take (i:=1) (v:=?vt24) rfl (by kernel_rfl) (by kernel_rfl) (by kernel_rfl) (fun _ _ _ h=>h) (Or.inl ⟨by rfl,?ht24⟩) hHeld ?rt24
   case ht24=>intro w9 hSw;(try dsimp only at hSw);first | (go_simp;done) | (go_simp;with_reducible rfl)
   try simp only [Act.put,List.setIfInBounds_toArray,List.set_cons_zero,List.set_cons_succ,List.getElem_toArray,List.getElem_cons_zero,List.getElem_cons_succ]
   refine wpAnyH_take (i:=2) (v:=?vt25) rfl (by kernel_rfl) (by kernel_rfl) (by kernel_rfl) (fun _ _ _ h=>h) (Or.inl ⟨by rfl,?ht25⟩) hHeld ?rt25
   case ht25=>intro w9 hSw;(try dsimp only at hSw);first | (go_simp;done) | (go_simp;with_reducible rfl)
   try simp only [Act.put,List.setIfInBounds_toArray,List.set_cons_zero,List.set_cons_succ,List.getElem_toArray,List.getElem_cons_zero,List.getElem_cons_succ]
   refine wpAnyH_take (i:=3) (v:=?vt26) rfl (by kernel_rfl) (by kernel_rfl) (by kernel_rfl) (fun _ _ _ h=>h) (Or.inl ⟨by rfl,?ht26⟩) hHeld ?rt26
   case ht26=>intro w9 hSw;(try dsimp only at hSw);first | (go_simp;done) | (go_simp;with_reducible rfl)
   try simp only [Act.put,List.setIfInBounds_toArray,List.set_cons_zero,List.set_cons_succ,List.getElem_toArray,List.getElem_cons_zero,List.getElem_cons_succ]
   refine wpAnyH_take (i:=4) (v:=?vt27) rfl (by kernel_rfl) (by kernel_rfl) (by kernel_rfl) (fun _ _ _ h=>h) (Or.inl ⟨by rfl,?ht27⟩) hHeld ?rt27
   case ht27=>intro w9 hSw;(try dsimp only at hSw);first | (go_simp;done) | (go_simp;with_reducible rfl)
   try simp only [Act.put,List.setIfInBounds_toArray,List.set_cons_zero,List.set_cons_succ,List.getElem_toArray,List.getElem_cons_zero,List.getElem_cons_succ]
   refine wpAnyH_take (i:=5) (v:=?vt28) rfl (by kernel_rfl) (by kernel_rfl) (by kernel_rfl) (fun _ _ _ h=>h) (Or.inl ⟨by rfl,?ht28⟩) hHeld ?rt28
   case ht28=>intro w9 hSw;(try dsimp only at hSw);first | (go_simp;done) | (go_simp;with_reducible rfl)
   try simp only [Act.put,List.setIfInBounds_toArray,List.set_cons_zero,List.set_cons_succ,List.getElem_toArray,List.getElem_cons_zero,List.getElem_cons_succ]
   refine wpAnyH_take (i:=6) (v:=?vt29) rfl (by kernel_rfl) (by kernel_rfl) (by kernel_rfl) (fun _ _ _ h=>h) (Or.inl ⟨by rfl,?ht29⟩) hHeld ?rt29
   case ht29=>intro w9 hSw;(try dsimp only at hSw);first | (go_simp;done) | (go_simp;with_reducible rfl)
   try simp only [Act.put,List.setIfInBounds_toArray,List.set_cons_zero,List.set_cons_succ,List.getElem_toArray,List.getElem_cons_zero,List.getElem_cons_succ]
   refine wpAnyH_take (i:=7) (v:=?vt30) rfl (by kernel_rfl) (by kernel_rfl) (by kernel_rfl) (fun _ _ _ h=>h) (Or.inl ⟨by rfl,?ht30⟩) hHeld ?rt30
   case ht30=>intro w9 hSw;(try dsimp only at hSw);first | (go_simp;done) | (go_simp;with_reducible rfl)
   try simp only [Act.put,List.setIfInBounds_toArray,List.set_cons_zero,List.set_cons_succ,List.getElem_toArray,List.getElem_cons_zero,List.getElem_cons_succ]
   refine wpAnyH_take (i:=8) (v:=?vt31) rfl (by kernel_rfl) (by kernel_rfl) (by kernel_rfl) (fun _ _ _ h=>h) (Or.inl ⟨by rfl,?ht31⟩) hHeld ?rt31
   case ht31=>intro w9 hSw;(try dsimp only at hSw);first | (go_simp;done) | (go_simp;with_reducible rfl)
   try simp only [Act.put,List.setIfInBounds_toArray,List.set_cons_zero,List.set_cons_succ,List.getElem_toArray,List.getElem_cons_zero,List.getElem_cons_succ]
   refine wpAnyH_take (i:=9) (v:=?vt32) rfl (by kernel_rfl) (by kernel_rfl) (by kernel_rfl) (fun _ _ _ h=>h) (Or.inl ⟨by rfl,?ht32⟩) hHeld ?rt32
   case ht32=>intro w9 hSw;(try dsimp only at hSw);first | (go_simp;done) | (go_simp;with_reducible rfl)
   try simp only [Act.put,List.setIfInBounds_toArray,List.set_cons_zero,List.set_cons_succ,List.getElem_toArray,List.getElem_cons_zero,List.getElem_cons_succ]
   refine wpAnyH_take (i:=10) (v:=?vt33) rfl (by kernel_rfl) (by kernel_rfl) (by kernel_rfl) (fun _ _ _ h=>h) (Or.inl ⟨by rfl,?ht33⟩) hHeld ?rt33
   case ht33=>intro w9 hSw;(try dsimp only at hSw);first | (go_simp;done) | (go_simp;with_reducible rfl)
   try simp only [Act.put,List.setIfInBounds_toArray,List.set_cons_zero,List.set_cons_succ,List.getElem_toArray,List.getElem_cons_zero,List.getElem_cons_succ]
   refine wpAnyH_take (i:=11) (v:=?vt34) rfl (by kernel_rfl) (by kernel_rfl) (by kernel_rfl) (fun _ _ _ h=>h) (Or.inl ⟨by rfl,?ht34⟩) hHeld ?rt34
   case ht34=>intro w9 hSw;(try dsimp only at hSw);first | (go_simp;done) | (go_simp;with_reducible rfl)
   try simp only [Act.put,List.setIfInBounds_toArray,List.set_cons_zero,List.set_cons_succ,List.getElem_toArray,List.getElem_cons_zero,List.getElem_cons_succ]
   refine wpAnyH_take (i:=12) (v:=?vt35) rfl (by kernel_rfl) (by kernel_rfl) (by kernel_rfl) (fun _ _ _ h=>h) (Or.inl ⟨by rfl,?ht35⟩) hHeld ?rt35
   case ht35=>intro w9 hSw;(try dsimp only at hSw);first | (go_simp;done) | (go_simp;with_reducible rfl)
   try simp only [Act.put,List.setIfInBounds_toArray,List.set_cons_zero,List.set_cons_succ,List.getElem_toArray,List.getElem_cons_zero,List.getElem_cons_succ]
   refine wpAnyH_ready (rs:=[13]) (by kernel_rfl) (by simp) (AllReadyH.cons rfl (fun K hK=>?_) (AllReadyH.nil))
   go_simp
   go_at_call 51
   refine (HD.out _ BX.out).mono ?_
   rintro e X1 ⟨y1,z1,rfl,hb,ho⟩
   obtain ⟨a1,k1,g1,j1,rfl,rfl⟩:=ho.shape
   have Q0:=cell_later hb P0
   have Q1:=cell_later hb P1
   have Q2:=cell_later hb P2
   have Q3:=cell_later hb P3
   have Q4:=cell_later hb P4
   have Q5:=cell_later hb P5
   have Q6:=cell_later hb P6
   have Q7:=cell_later hb P7
   have Q8:=cell_later hb P8
   have Q9:=cell_later hb P9
   have Q10:=cell_later hb P10
   have Q11:=cell_later hb P11
   refine hK.out _ _ ⟨Q0,Q1,Q2,Q3,Q4,Q5,Q6,Q7,Q8,Q9,Q10,Q11⟩ (fun _=>?_)
   clear hK K HD
   try simp only [Act.put,List.setIfInBounds_toArray,List.set_cons_zero,List.set_cons_succ,List.getElem_toArray,List.getElem_cons_zero,List.getElem_cons_succ]
   have BY:=hide (below_on BX.out hb)
   have RY:=hide (RX.out.later hb)
   have XY:=hide (XX.out.later hb)
   have XFY:Hid (∀q,X1.frozen? ⟨w.heap.size+2,q,none⟩=false):=fun q=>((bcell hb).2 _ _ XX.out.lt).trans (XFX.out q)
   have IY:=hide ho
   have hx1:=hb.size
   clear hb ho hHeld BX RX XX XFX P0 P1 P2 P3 P4 P5 P6 P7 P8 P9 P10 P11
   obtain ⟨x0,x1,x2,x3,x4,x5,x6⟩:=XY.out
   have e0:=XFY.out 0
   have e1:=XFY.out 1
   have e2:=XFY.out 2
   have e3:=XFY.out 3
   have e4:=XFY.out 4
   have e5:=XFY.out 5
   have e6:=XFY.out 6
   refine wpAnyH_ready (rs:=[14]) (by kernel_rfl) (by simp) (AllReadyH.cons rfl (fun K hK=>?_) (AllReadyH.nil))
   go_simp
   have hn0:w.heap.size≠w.heap.size+2:=by omega
   have hn1:bk≠w.heap.size+2:=by omega
   refine hK.out _ _ ⟨(set7_otherD hn0).trans Q0,(set7_otherD hn0).trans Q1,(set7_otherD hn0).trans Q2,(set7_otherD hn0).trans Q3,(set7_otherD hn0).trans Q4,(set7_otherD hn0).trans Q5,(set7_otherD hn1).trans Q6,(set7_otherD hn1).trans Q7,(set7_otherD hn1).trans Q8,(set7_otherD hn1).trans Q9,(set7_otherD hn1).trans Q10,(set7_otherD hn1).trans Q11⟩ (fun _=>?_)
   clear hK K
   try simp only [Act.put,List.setIfInBounds_toArray,List.set_cons_zero,List.set_cons_succ,List.getElem_toArray,List.getElem_cons_zero,List.getElem_cons_succ]
   refine wpAnyH_done (by kernel_rfl) ?_ _
   refine forgetX (fun W5=>Var7 W5 (w.heap.size+2) (.int .i64 0) (.int .i64 N.tm) (.int .i64 N.vt) (.int .i64 N.si) (.int .i64 N.st) (.slice a1 N.sn.length k1) (.slice g1 N.lg.length j1)∧Var6 W5 w.heap.size (.int .i64 a) (.int .i64 b) (.int .i64 c) (.int .i64 d) (.slice ay l cy) (.slice az m cz)∧Res9 w W5 (w.heap.size+1)∧(∃lo,w.heap.size+2<lo∧IvR lo W5.heap.size W5 (.slice a1 N.sn.length k1) (.slice g1 N.lg.length j1) N.sn N.lg)) ?sc2True ?_
   case sc2True=>
    have hw5:Wr (fun x=>x=w.heap.size+2) X1 (((((((X1.setCell ⟨w.heap.size+2,0,none⟩ (.int .i64 0)).setCell ⟨w.heap.size+2,1,none⟩ (.int .i64 N.tm)).setCell ⟨w.heap.size+2,2,none⟩ (.int .i64 N.vt)).setCell ⟨w.heap.size+2,3,none⟩ (.int .i64 N.si)).setCell ⟨w.heap.size+2,4,none⟩ (.int .i64 N.st)).setCell ⟨w.heap.size+2,5,none⟩ (.slice a1 N.sn.length k1)).setCell ⟨w.heap.size+2,6,none⟩ (.slice g1 N.lg.length j1)):=(Wr.setCell (p:=⟨w.heap.size+2,6,none⟩) (Wr.setCell (p:=⟨w.heap.size+2,5,none⟩) (Wr.setCell (p:=⟨w.heap.size+2,4,none⟩) (Wr.setCell (p:=⟨w.heap.size+2,3,none⟩) (Wr.setCell (p:=⟨w.heap.size+2,2,none⟩) (Wr.setCell (p:=⟨w.heap.size+2,1,none⟩) (Wr.setCell (p:=⟨w.heap.size+2,0,none⟩) (Wr.refl (fun x=>x=w.heap.size+2) _) rfl (.int .i64 0)) rfl (.int .i64 N.tm)) rfl (.int .i64 N.vt)) rfl (.int .i64 N.si)) rfl (.int .i64 N.st)) rfl (.slice a1 N.sn.length k1)) rfl (.slice g1 N.lg.length j1))
    exact ⟨⟨by simp [go_sem,x0],by simp [go_sem,x1],by simp [go_sem,x2],by simp [go_sem,x3],by simp [go_sem,x4],by simp [go_sem,x5],by simp [go_sem,x6]⟩,⟨(set7_otherD hn0).trans Q0,(set7_otherD hn0).trans Q1,(set7_otherD hn0).trans Q2,(set7_otherD hn0).trans Q3,(set7_otherD hn0).trans Q4,(set7_otherD hn0).trans Q5⟩,RY.out.wr hw5 (by omega) (fun b hb=>by omega),X0.heap.size,by omega,(IY.out.wr hw5 (fun b h1 h2 e=>by omega)).up (Nat.le_refl _) hw5.size⟩
   clear Q0 Q1 Q2 Q3 Q4 Q5 Q6 Q7 Q8 Q9 Q10 Q11 x0 x1 x2 x3 x4 x5 x6 e0 e1 e2 e3 e4 e5 e6 hn0 hn1 BY RY XY XFY IY
   rintro W5 ⟨N7,V6,R9,lo,hlo,I5⟩
   have HN7:=hide N7
   have HV6:=hide V6
   have HR9:=hide R9
   have HI5:=hide I5
   obtain ⟨n0,n1,n2,n3,n4,n5,n6⟩:=N7
   clear V6 R9 I5
   have HFn:=hide (ret_op (w:=w) (r:=w.heap.size+1) (x0:=.int .i64 0) (x1:=.int .i64 0) (x2:=.int .i64 0) (x3:=.int .i64 N.tm) (x4:=.int .i64 N.vt) (x5:=.int .i64 N.si) (x6:=.int .i64 N.st) HR9.out.below HR9.out.ge HI5.out (by omega))
   obtain ⟨_,⟨c0,c1,c2,c3,c4,c5,c6,c7,c8⟩,F,_⟩:=HR9.out
   have f0:=F 0
   have f1:=F 1
   have f2:=F 2
   have f3:=F 3
   have f4:=F 4
   have f5:=F 5
   have f6:=F 6
   have f7:=F 7
   have f8:=F 8
   clear F
   go_wp2
   refine bodyPost_ret (v:=.agg #[.int .i64 0,.int .i64 0,.int .i64 0,.int .i64 N.tm,.int .i64 N.vt,.int .i64 N.si,.int .i64 N.st,.slice a1 N.sn.length k1,.slice g1 N.lg.length j1]) (by simp [results,Tryz.results27,go_sem,c0,c1,c2,c3,c4,c5,c6,c7,c8]) rfl ⟨_,_,rfl,HFn.out.1,HFn.out.2⟩
  ·simp only [if_neg hC0]
   have hCb:(C==0)=false:=by simpa using hC0
   have hCc:(C !=0)=true:=by simp [hC0]
   generalize r.sn.length=l at*
   generalize r.lg.length=m at*
   generalize o.sn.length=l2 at*
   generalize o.lg.length=m2 at*
   generalize r.tm=a at*
   generalize r.vt=b at*
   generalize r.si=c at*
   generalize r.st=d at*
   generalize o.tm=a2 at*
   generalize o.vt=b2 at*
   generalize o.si=c2 at*
   generalize o.st=d2 at*
   subst h
   have BA0:=below_on (below_alloc w (.cells #[.int .i64 a,.int .i64 b,.int .i64 c,.int .i64 d,.slice ay l cy,.slice az m cz] 27)) (below_alloc _ (.cells #[.int .i64 0,.int .i64 0,.int .i64 0,.int .i64 0,.int .i64 0,.int .i64 0,.int .i64 0,.slice none 0 0,.slice none 0 0] 33))
   have VR0:=(Var6_new w (.int .i64 a) (.int .i64 b) (.int .i64 c) (.int .i64 d) (.slice ay l cy) (.slice az m cz) 27).later (below_alloc _ (.cells #[.int .i64 0,.int .i64 0,.int .i64 0,.int .i64 0,.int .i64 0,.int .i64 0,.int .i64 0,.slice none 0 0,.slice none 0 0] 33))
   have RA0:=Res9.new (below_alloc w (.cells #[.int .i64 a,.int .i64 b,.int .i64 c,.int .i64 d,.slice ay l cy,.slice az m cz] 27)) 33
   rw [World.size_alloc] at RA0
   obtain ⟨W2,hW2⟩: ∃x,((w.alloc (.cells #[.int .i64 a,.int .i64 b,.int .i64 c,.int .i64 d,.slice ay l cy,.slice az m cz] 27)).alloc (.cells #[.int .i64 0,.int .i64 0,.int .i64 0,.int .i64 0,.int .i64 0,.int .i64 0,.int .i64 0,.slice none 0 0,.slice none 0 0] 33))=x:=⟨_,rfl⟩
   have hs2:W2.heap.size=w.heap.size+2:=by rw [← hW2];simp
   rw [hW2] at BA0 VR0 RA0
   have BA2:=hide BA0
   have VA2:=hide VR0
   have RA2:=hide RA0
   clear BA0 VR0 RA0
   go_enter Tryz.func27,Tryz.ntmps27
   go_upto_region 1 with fail
   (try rw [hW2])
   clear hW2
   go_upto_region 2 with fail
   have hbd:=below_alloc W2 (.cells #[.int .i64 0,.int .i64 0,.int .i64 0,.int .i64 0,.int .i64 0,.slice none 0 0,.slice none 0 0] 79)
   have BA:=hide (below_on BA2.out hbd)
   have VA:=hide (VA2.out.later hbd)
   have RA:=hide (RA2.out.later hbd)
   have XA0:=Var7_new W2 (.int .i64 0) (.int .i64 0) (.int .i64 0) (.int .i64 0) (.int .i64 0) (.slice none 0 0) (.slice none 0 0) 79
   rw [hs2] at XA0
   have XA:=hide XA0
   have XF0: ∀q,(W2.alloc (.cells #[.int .i64 0,.int .i64 0,.int .i64 0,.int .i64 0,.int .i64 0,.slice none 0 0,.slice none 0 0] 79)).frozen? ⟨w.heap.size+2,q,none⟩=false:=fun q=>by rw [← hs2];simp [go_sem]
   have XF:=hide XF0
   obtain ⟨W3,hW3⟩: ∃x,W2.alloc (.cells #[.int .i64 0,.int .i64 0,.int .i64 0,.int .i64 0,.int .i64 0,.slice none 0 0,.slice none 0 0] 79)=x:=⟨_,rfl⟩
   have hs3:W3.heap.size=w.heap.size+3:=by rw [← hW3];simp [hs2]
   rw [hW3] at BA VA RA XA XF
   (try rw [hW3])
   (try simp only [hs2])
   have OA:=hide (HO6.out.later BA.out)
   clear hbd XA0 XF0 hW3 BA2 VA2 RA2 hs2 HO6
   obtain ⟨v0,v1,v2,v3,v4,v5⟩:=VA.out
   obtain ⟨p0,p1,p2,p3,p4,p5⟩:=OA.out
   go_upto_region 8 with fail
   refine wp_region_held_drew (S:=fun w'=>w'.cell? ⟨w.heap.size,0,none⟩=some (.int .i64 a)∧w'.cell? ⟨w.heap.size,1,none⟩=some (.int .i64 b)∧w'.cell? ⟨w.heap.size,2,none⟩=some (.int .i64 c)∧w'.cell? ⟨w.heap.size,3,none⟩=some (.int .i64 d)∧w'.cell? ⟨w.heap.size,4,none⟩=some (.slice ay l cy)∧w'.cell? ⟨w.heap.size,5,none⟩=some (.slice az m cz)∧w'.cell? ⟨bk,ob,none⟩=some (.int .i64 2)∧w'.cell? ⟨bk,ob+1,none⟩=some (.int .i64 b2)∧w'.cell? ⟨bk,ob+2,none⟩=some (.int .i64 c2)∧w'.cell? ⟨bk,ob+3,none⟩=some (.int .i64 d2)∧w'.cell? ⟨bk,ob+4,none⟩=some (.slice au l2 cu)∧w'.cell? ⟨bk,ob+5,none⟩=some (.slice av m2 cv)) (by kernel_rfl) ⟨v0,v1,v2,v3,v4,v5,p0,p1,p2,p3,p4,p5⟩ (fun hHeld0=>?_)
   refine forgetH (fun wx=>(wx.cell? ⟨w.heap.size,0,none⟩=some (.int .i64 a)∧wx.cell? ⟨w.heap.size,1,none⟩=some (.int .i64 b)∧wx.cell? ⟨w.heap.size,2,none⟩=some (.int .i64 c)∧wx.cell? ⟨w.heap.size,3,none⟩=some (.int .i64 d)∧wx.cell? ⟨w.heap.size,4,none⟩=some (.slice ay l cy)∧wx.cell? ⟨w.heap.size,5,none⟩=some (.slice az m cz)∧wx.cell? ⟨bk,ob,none⟩=some (.int .i64 2)∧wx.cell? ⟨bk,ob+1,none⟩=some (.int .i64 b2)∧wx.cell? ⟨bk,ob+2,none⟩=some (.int .i64 c2)∧wx.cell? ⟨bk,ob+3,none⟩=some (.int .i64 d2)∧wx.cell? ⟨bk,ob+4,none⟩=some (.slice au l2 cu)∧wx.cell? ⟨bk,ob+5,none⟩=some (.slice av m2 cv))∧Below W3.heap.size W3 wx) ⟨hHeld0,below_drewN W3 1⟩ ?_
   clear hHeld0 v0 v1 v2 v3 v4 v5 p0 p1 p2 p3 p4 p5
   rintro X0 ⟨hHeld,hbx⟩
   obtain ⟨P0,P1,P2,P3,P4,P5,P6,P7,P8,P9,P10,P11⟩:=id hHeld
   have hx0:=hbx.size
   have BX:=hide (below_on BA.out hbx)
   have RX:=hide (RA.out.later hbx)
   have XX:=hide (XA.out.later hbx)
   have XFX:Hid (∀q,X0.frozen? ⟨w.heap.size+2,q,none⟩=false):=fun q=>((bcell hbx).2 _ _ XA.out.lt).trans (XF.out q)
   clear hbx BA VA RA XA OA XF
   refine wpAnyH_take (i:=0) (v:=?vt36) rfl (by kernel_rfl) (by kernel_rfl) (by kernel_rfl) (fun _ _ _ h=>h) (Or.inl ⟨by rfl,?ht36⟩) hHeld ?rt36
   case ht36=>intro w9 hSw;(try dsimp only at hSw);first | (go_simp;done) | (go_simp;with_reducible rfl)
   try simp only [Act.put,List.setIfInBounds_toArray,List.set_cons_zero,List.set_cons_succ,List.getElem_toArray,List.getElem_cons_zero,List.getElem_cons_succ]
   refine wpAnyH_take (i:=1) (v:=?vt37) rfl (by kernel_rfl) (by kernel_rfl) (by kernel_rfl) (fun _ _ _ h=>h) (Or.inl ⟨by rfl,?ht37⟩) hHeld ?rt37
   case ht37=>intro w9 hSw;(try dsimp only at hSw);first | (go_simp;done) | (go_simp;with_reducible rfl)
   try simp only [Act.put,List.setIfInBounds_toArray,List.set_cons_zero,List.set_cons_succ,List.getElem_toArray,List.getElem_cons_zero,List.getElem_cons_succ]
   refine wpAnyH_take (i:=2) (v:=?vt38) rfl (by kernel_rfl) (by kernel_rfl) (by kernel_rfl) (fun _ _ _ h=>h) (Or.inl ⟨by rfl,?ht38⟩) hHeld ?rt38
   case ht38=>intro w9 hSw;(try dsimp only at hSw);first | (go_simp;done) | (go_simp;with_reducible rfl)
   try simp only [Act.put,List.setIfInBounds_toArray,List.set_cons_zero,List.set_cons_succ,List.getElem_toArray,List.getElem_cons_zero,List.getElem_cons_succ]
   refine wpAnyH_take (i:=3) (v:=?vt39) rfl (by kernel_rfl) (by kernel_rfl) (by kernel_rfl) (fun _ _ _ h=>h) (Or.inl ⟨by rfl,?ht39⟩) hHeld ?rt39
   case ht39=>intro w9 hSw;(try dsimp only at hSw);first | (go_simp;done) | (go_simp;with_reducible rfl)
   try simp only [Act.put,List.setIfInBounds_toArray,List.set_cons_zero,List.set_cons_succ,List.getElem_toArray,List.getElem_cons_zero,List.getElem_cons_succ]
   refine wpAnyH_take (i:=4) (v:=?vt40) rfl (by kernel_rfl) (by kernel_rfl) (by kernel_rfl) (fun _ _ _ h=>h) (Or.inl ⟨by rfl,?ht40⟩) hHeld ?rt40
   case ht40=>intro w9 hSw;(try dsimp only at hSw);first | (go_simp;done) | (go_simp;with_reducible rfl)
   try simp only [Act.put,List.setIfInBounds_toArray,List.set_cons_zero,List.set_cons_succ,List.getElem_toArray,List.getElem_cons_zero,List.getElem_cons_succ]
   refine wpAnyH_take (i:=5) (v:=?vt41) rfl (by kernel_rfl) (by kernel_rfl) (by kernel_rfl) (fun _ _ _ h=>h) (Or.inl ⟨by rfl,?ht41⟩) hHeld ?rt41
   case ht41=>intro w9 hSw;(try dsimp only at hSw);first | (go_simp;done) | (go_simp;with_reducible rfl)
   try simp only [Act.put,List.setIfInBounds_toArray,List.set_cons_zero,List.set_cons_succ,List.getElem_toArray,List.getElem_cons_zero,List.getElem_cons_succ]
   refine wpAnyH_take (i:=6) (v:=?vt42) rfl (by kernel_rfl) (by kernel_rfl) (by kernel_rfl) (fun _ _ _ h=>h) (Or.inl ⟨by rfl,?ht42⟩) hHeld ?rt42
   case ht42=>intro w9 hSw;(try dsimp only at hSw);first | (go_simp;done) | (go_simp;with_reducible rfl)
   try simp only [Act.put,List.setIfInBounds_toArray,List.set_cons_zero,List.set_cons_succ,List.getElem_toArray,List.getElem_cons_zero,List.getElem_cons_succ]
   refine wpAnyH_take (i:=7) (v:=?vt43) rfl (by kernel_rfl) (by kernel_rfl) (by kernel_rfl) (fun _ _ _ h=>h) (Or.inl ⟨by rfl,?ht43⟩) hHeld ?rt43
   case ht43=>intro w9 hSw;(try dsimp only at hSw);first | (go_simp;done) | (go_simp;with_reducible rfl)
   try simp only [Act.put,List.setIfInBounds_toArray,List.set_cons_zero,List.set_cons_succ,List.getElem_toArray,List.getElem_cons_zero,List.getElem_cons_succ]
   refine wpAnyH_take (i:=8) (v:=?vt44) rfl (by kernel_rfl) (by kernel_rfl) (by kernel_rfl) (fun _ _ _ h=>h) (Or.inl ⟨by rfl,?ht44⟩) hHeld ?rt44
   case ht44=>intro w9 hSw;(try dsimp only at hSw);first | (go_simp;done) | (go_simp;with_reducible rfl)
   try simp only [Act.put,List.setIfInBounds_toArray,List.set_cons_zero,List.set_cons_succ,List.getElem_toArray,List.getElem_cons_zero,List.getElem_cons_succ]
   refine wpAnyH_take (i:=9) (v:=?vt45) rfl (by kernel_rfl) (by kernel_rfl) (by kernel_rfl) (fun _ _ _ h=>h) (Or.inl ⟨by rfl,?ht45⟩) hHeld ?rt45
   case ht45=>intro w9 hSw;(try dsimp only at hSw);first | (go_simp;done) | (go_simp;with_reducible rfl)
   try simp only [Act.put,List.setIfInBounds_toArray,List.set_cons_zero,List.set_cons_succ,List.getElem_toArray,List.getElem_cons_zero,List.getElem_cons_succ]
   refine wpAnyH_take (i:=10) (v:=?vt46) rfl (by kernel_rfl) (by kernel_rfl) (by kernel_rfl) (fun _ _ _ h=>h) (Or.inl ⟨by rfl,?ht46⟩) hHeld ?rt46
   case ht46=>intro w9 hSw;(try dsimp only at hSw);first | (go_simp;done) | (go_simp;with_reducible rfl)
   try simp only [Act.put,List.setIfInBounds_toArray,List.set_cons_zero,List.set_cons_succ,List.getElem_toArray,List.getElem_cons_zero,List.getElem_cons_succ]
   refine wpAnyH_take (i:=11) (v:=?vt47) rfl (by kernel_rfl) (by kernel_rfl) (by kernel_rfl) (fun _ _ _ h=>h) (Or.inl ⟨by rfl,?ht47⟩) hHeld ?rt47
   case ht47=>intro w9 hSw;(try dsimp only at hSw);first | (go_simp;done) | (go_simp;with_reducible rfl)
   try simp only [Act.put,List.setIfInBounds_toArray,List.set_cons_zero,List.set_cons_succ,List.getElem_toArray,List.getElem_cons_zero,List.getElem_cons_succ]
   refine wpAnyH_take (i:=12) (v:=?vt48) rfl (by kernel_rfl) (by kernel_rfl) (by kernel_rfl) (fun _ _ _ h=>h) (Or.inl ⟨by rfl,?ht48⟩) hHeld ?rt48
   case ht48=>intro w9 hSw;(try dsimp only at hSw);first | (go_simp;done) | (go_simp;with_reducible rfl)
   try simp only [Act.put,List.setIfInBounds_toArray,List.set_cons_zero,List.set_cons_succ,List.getElem_toArray,List.getElem_cons_zero,List.getElem_cons_succ]
   refine wpAnyH_ready (rs:=[13]) (by kernel_rfl) (by simp) (AllReadyH.cons rfl (fun K hK=>?_) (AllReadyH.nil))
   go_simp
   go_at_call 51
   refine (HD.out _ BX.out).mono ?_
   rintro e X1 ⟨y1,z1,rfl,hb,ho⟩
   obtain ⟨a1,k1,g1,j1,rfl,rfl⟩:=ho.shape
   have Q0:=cell_later hb P0
   have Q1:=cell_later hb P1
   have Q2:=cell_later hb P2
   have Q3:=cell_later hb P3
   have Q4:=cell_later hb P4
   have Q5:=cell_later hb P5
   have Q6:=cell_later hb P6
   have Q7:=cell_later hb P7
   have Q8:=cell_later hb P8
   have Q9:=cell_later hb P9
   have Q10:=cell_later hb P10
   have Q11:=cell_later hb P11
   refine hK.out _ _ ⟨Q0,Q1,Q2,Q3,Q4,Q5,Q6,Q7,Q8,Q9,Q10,Q11⟩ (fun _=>?_)
   clear hK K HD
   try simp only [Act.put,List.setIfInBounds_toArray,List.set_cons_zero,List.set_cons_succ,List.getElem_toArray,List.getElem_cons_zero,List.getElem_cons_succ]
   have BY:=hide (below_on BX.out hb)
   have RY:=hide (RX.out.later hb)
   have XY:=hide (XX.out.later hb)
   have XFY:Hid (∀q,X1.frozen? ⟨w.heap.size+2,q,none⟩=false):=fun q=>((bcell hb).2 _ _ XX.out.lt).trans (XFX.out q)
   have IY:=hide ho
   have hx1:=hb.size
   clear hb ho hHeld BX RX XX XFX P0 P1 P2 P3 P4 P5 P6 P7 P8 P9 P10 P11
   obtain ⟨x0,x1,x2,x3,x4,x5,x6⟩:=XY.out
   have e0:=XFY.out 0
   have e1:=XFY.out 1
   have e2:=XFY.out 2
   have e3:=XFY.out 3
   have e4:=XFY.out 4
   have e5:=XFY.out 5
   have e6:=XFY.out 6
   refine wpAnyH_ready (rs:=[14]) (by kernel_rfl) (by simp) (AllReadyH.cons rfl (fun K hK=>?_) (AllReadyH.nil))
   go_simp
   have hn0:w.heap.size≠w.heap.size+2:=by omega
   have hn1:bk≠w.heap.size+2:=by omega
   refine hK.out _ _ ⟨(set7_otherD hn0).trans Q0,(set7_otherD hn0).trans Q1,(set7_otherD hn0).trans Q2,(set7_otherD hn0).trans Q3,(set7_otherD hn0).trans Q4,(set7_otherD hn0).trans Q5,(set7_otherD hn1).trans Q6,(set7_otherD hn1).trans Q7,(set7_otherD hn1).trans Q8,(set7_otherD hn1).trans Q9,(set7_otherD hn1).trans Q10,(set7_otherD hn1).trans Q11⟩ (fun _=>?_)
   clear hK K
   try simp only [Act.put,List.setIfInBounds_toArray,List.set_cons_zero,List.set_cons_succ,List.getElem_toArray,List.getElem_cons_zero,List.getElem_cons_succ]
   refine wpAnyH_done (by kernel_rfl) ?_ _
   refine forgetX (fun W5=>Var7 W5 (w.heap.size+2) (.int .i64 C) (.int .i64 N.tm) (.int .i64 N.vt) (.int .i64 N.si) (.int .i64 N.st) (.slice a1 N.sn.length k1) (.slice g1 N.lg.length j1)∧Var6 W5 w.heap.size (.int .i64 a) (.int .i64 b) (.int .i64 c) (.int .i64 d) (.slice ay l cy) (.slice az m cz)∧Res9 w W5 (w.heap.size+1)∧(∃lo,w.heap.size+2<lo∧IvR lo W5.heap.size W5 (.slice a1 N.sn.length k1) (.slice g1 N.lg.length j1) N.sn N.lg)) ?sc2False ?_
   case sc2False=>
    have hw5:Wr (fun x=>x=w.heap.size+2) X1 (((((((X1.setCell ⟨w.heap.size+2,0,none⟩ (.int .i64 C)).setCell ⟨w.heap.size+2,1,none⟩ (.int .i64 N.tm)).setCell ⟨w.heap.size+2,2,none⟩ (.int .i64 N.vt)).setCell ⟨w.heap.size+2,3,none⟩ (.int .i64 N.si)).setCell ⟨w.heap.size+2,4,none⟩ (.int .i64 N.st)).setCell ⟨w.heap.size+2,5,none⟩ (.slice a1 N.sn.length k1)).setCell ⟨w.heap.size+2,6,none⟩ (.slice g1 N.lg.length j1)):=(Wr.setCell (p:=⟨w.heap.size+2,6,none⟩) (Wr.setCell (p:=⟨w.heap.size+2,5,none⟩) (Wr.setCell (p:=⟨w.heap.size+2,4,none⟩) (Wr.setCell (p:=⟨w.heap.size+2,3,none⟩) (Wr.setCell (p:=⟨w.heap.size+2,2,none⟩) (Wr.setCell (p:=⟨w.heap.size+2,1,none⟩) (Wr.setCell (p:=⟨w.heap.size+2,0,none⟩) (Wr.refl (fun x=>x=w.heap.size+2) _) rfl (.int .i64 C)) rfl (.int .i64 N.tm)) rfl (.int .i64 N.vt)) rfl (.int .i64 N.si)) rfl (.int .i64 N.st)) rfl (.slice a1 N.sn.length k1)) rfl (.slice g1 N.lg.length j1))
    exact ⟨⟨by simp [go_sem,x0],by simp [go_sem,x1],by simp [go_sem,x2],by simp [go_sem,x3],by simp [go_sem,x4],by simp [go_sem,x5],by simp [go_sem,x6]⟩,⟨(set7_otherD hn0).trans Q0,(set7_otherD hn0).trans Q1,(set7_otherD hn0).trans Q2,(set7_otherD hn0).trans Q3,(set7_otherD hn0).trans Q4,(set7_otherD hn0).trans Q5⟩,RY.out.wr hw5 (by omega) (fun b hb=>by omega),X0.heap.size,by omega,(IY.out.wr hw5 (fun b h1 h2 e=>by omega)).up (Nat.le_refl _) hw5.size⟩
   clear Q0 Q1 Q2 Q3 Q4 Q5 Q6 Q7 Q8 Q9 Q10 Q11 x0 x1 x2 x3 x4 x5 x6 e0 e1 e2 e3 e4 e5 e6 hn0 hn1 BY RY XY XFY IY
   rintro W5 ⟨N7,V6,R9,lo,hlo,I5⟩
   have HN7:=hide N7
   have HV6:=hide V6
   have HR9:=hide R9
   have HI5:=hide I5
   obtain ⟨n0,n1,n2,n3,n4,n5,n6⟩:=N7
   clear V6 R9 I5
   obtain ⟨v0,v1,v2,v3,v4,v5⟩:=HV6.out
   go_upto_region 14 with fail
   refine wp_region_held_drew (S:=fun w'=>w'.cell? ⟨w.heap.size+2,0,none⟩=some (.int .i64 C)∧w'.cell? ⟨w.heap.size,0,none⟩=some (.int .i64 a)∧w'.cell? ⟨w.heap.size,1,none⟩=some (.int .i64 b)∧w'.cell? ⟨w.heap.size,2,none⟩=some (.int .i64 c)∧w'.cell? ⟨w.heap.size,3,none⟩=some (.int .i64 d)∧w'.cell? ⟨w.heap.size,4,none⟩=some (.slice ay l cy)∧w'.cell? ⟨w.heap.size,5,none⟩=some (.slice az m cz)) (by kernel_rfl) ⟨n0,v0,v1,v2,v3,v4,v5⟩ (fun hHeld0=>?_)
   refine forgetH (fun wx=>(wx.cell? ⟨w.heap.size+2,0,none⟩=some (.int .i64 C)∧wx.cell? ⟨w.heap.size,0,none⟩=some (.int .i64 a)∧wx.cell? ⟨w.heap.size,1,none⟩=some (.int .i64 b)∧wx.cell? ⟨w.heap.size,2,none⟩=some (.int .i64 c)∧wx.cell? ⟨w.heap.size,3,none⟩=some (.int .i64 d)∧wx.cell? ⟨w.heap.size,4,none⟩=some (.slice ay l cy)∧wx.cell? ⟨w.heap.size,5,none⟩=some (.slice az m cz))∧Below W5.heap.size W5 wx) ⟨hHeld0,below_drewN W5 1⟩ ?_
   clear hHeld0
   rintro Y0 ⟨hHeld,hbx⟩
   obtain ⟨P0,P1,P2,P3,P4,P5,P6⟩:=id hHeld
   have RX:=hide (HR9.out.later hbx)
   have hy0:=hbx.size
   clear hbx
   refine wpAnyH_take (i:=0) (v:=?vt49) rfl (by kernel_rfl) (by kernel_rfl) (by kernel_rfl) (fun _ _ _ h=>h) (Or.inl ⟨by rfl,?ht49⟩) hHeld ?rt49
   case ht49=>intro w9 hSw;(try dsimp only at hSw);first | (go_simp;done) | (go_simp;with_reducible rfl)
   try simp only [Act.put,List.setIfInBounds_toArray,List.set_cons_zero,List.set_cons_succ,List.getElem_toArray,List.getElem_cons_zero,List.getElem_cons_succ]
   refine wpAnyH_take (i:=1) (v:=?vt50) rfl (by kernel_rfl) (by kernel_rfl) (by kernel_rfl) (fun _ _ _ h=>h) (Or.inl ⟨by rfl,?ht50⟩) hHeld ?rt50
   case ht50=>intro w9 hSw;(try dsimp only at hSw);first | (go_simp;done) | (go_simp;with_reducible rfl)
   try simp only [Act.put,List.setIfInBounds_toArray,List.set_cons_zero,List.set_cons_succ,List.getElem_toArray,List.getElem_cons_zero,List.getElem_cons_succ]
   refine wpAnyH_take (i:=2) (v:=?vt51) rfl (by kernel_rfl) (by kernel_rfl) (by kernel_rfl) (fun _ _ _ h=>h) (Or.inl ⟨by rfl,?ht51⟩) hHeld ?rt51
   case ht51=>intro w9 hSw;(try dsimp only at hSw);first | (go_simp;done) | (go_simp;with_reducible rfl)
   try simp only [Act.put,List.setIfInBounds_toArray,List.set_cons_zero,List.set_cons_succ,List.getElem_toArray,List.getElem_cons_zero,List.getElem_cons_succ]
   refine wpAnyH_ready (rs:=[3]) (by kernel_rfl) (by simp) (AllReadyH.cons rfl (fun K hK=>?_) (AllReadyH.nil))
   go_simp
   go_at_call 43
   have HCq:=hide (HCp.out _ RX.out.below)
   refine HCq.out.mono ?_
   rintro e Y1 ⟨y7,z7,rfl,hb,ho⟩
   obtain ⟨a7,k7,g7,j7,hy7,hz7⟩:=ho.shape
   subst hy7
   subst hz7
   have Q0:=cell_later hb P0
   have Q1:=cell_later hb P1
   have Q2:=cell_later hb P2
   have Q3:=cell_later hb P3
   have Q4:=cell_later hb P4
   have Q5:=cell_later hb P5
   have Q6:=cell_later hb P6
   refine hK.out _ _ ⟨Q0,Q1,Q2,Q3,Q4,Q5,Q6⟩ (fun _=>?_)
   clear hK K
   try simp only [Act.put,List.setIfInBounds_toArray,List.set_cons_zero,List.set_cons_succ,List.getElem_toArray,List.getElem_cons_zero,List.getElem_cons_succ]
   have RY:=hide (RX.out.later hb)
   have hxr:=RX.out.lt
   have IY:=hide ho
   clear hb ho hHeld P0 P1 P2 P3 P4 P5 P6
   refine wpAnyH_take (i:=4) (v:=?vt52) rfl (by kernel_rfl) (by kernel_rfl) (by kernel_rfl) (fun _ _ _ h=>h) (Or.inl ⟨by rfl,?ht52⟩) ⟨Q0,Q1,Q2,Q3,Q4,Q5,Q6⟩ ?rt52
   case ht52=>intro w9 hSw;(try dsimp only at hSw);first | (go_simp;done) | (go_simp;with_reducible rfl)
   try simp only [Act.put,List.setIfInBounds_toArray,List.set_cons_zero,List.set_cons_succ,List.getElem_toArray,List.getElem_cons_zero,List.getElem_cons_succ]
   have HFn:=hide (ret_op (w:=w) (r:=w.heap.size+1) (x0:=.int .i64 0) (x1:=.int .i64 C) (x2:=.int .i64 0) (x3:=.int .i64 a) (x4:=.int .i64 b) (x5:=.int .i64 c) (x6:=.int .i64 d) RY.out.below RY.out.ge IY.out (by omega))
   obtain ⟨_,⟨c0,c1,c2,c3,c4,c5,c6,c7,c8⟩,F,_⟩:=RY.out
   have f0:=F 0
   have f1:=F 1
   have f2:=F 2
   have f3:=F 3
   have f4:=F 4
   have f5:=F 5
   have f6:=F 6
   have f7:=F 7
   have f8:=F 8
   clear F
   refine wpAnyH_ready (rs:=[5]) (by kernel_rfl) (by simp) (AllReadyH.cons rfl (fun K hK=>?_) (AllReadyH.nil))
   go_simp
   refine hK.out _ _ ⟨(set9_other (by omega)).trans Q0,(set9_other (by omega)).trans Q1,(set9_other (by omega)).trans Q2,(set9_other (by omega)).trans Q3,(set9_other (by omega)).trans Q4,(set9_other (by omega)).trans Q5,(set9_other (by omega)).trans Q6⟩ (fun _=>?_)
   clear hK K
   try simp only [Act.put,List.setIfInBounds_toArray,List.set_cons_zero,List.set_cons_succ,List.getElem_toArray,List.getElem_cons_zero,List.getElem_cons_succ]
   refine wpAnyH_done (by kernel_rfl) ?_ _
   go_wp2
   refine bodyPost_ret (v:=.agg #[.int .i64 0,.int .i64 C,.int .i64 0,.int .i64 a,.int .i64 b,.int .i64 c,.int .i64 d,.slice a7 r.sn.length k7,.slice g7 r.lg.length j7]) (by simp [results,Tryz.results27,go_sem,c0,c1,c2,c3,c4,c5,c6,c7,c8]) rfl ⟨_,_,rfl,HFn.out.1,HFn.out.2⟩
 ·skip
  obtain ⟨e1,e2,e3⟩:=dy3 (r:=r) h
  have HD:=hide (fun (w':World) (hb:Below w.heap.size w w')=>specCompactRaft r o.vt (hy.later hb) (hz.later hb) hcp (hu.later hb))
  rw [e1,e2,e3]
  clear e1 e2 e3
  obtain ⟨C,hC⟩: ∃C,cpC r o.vt o.sn=C:=⟨_,rfl⟩
  obtain ⟨N,hN⟩: ∃N,cpR r o.vt o.sn=N:=⟨_,rfl⟩
  rw [hC,hN] at HD
  rw [hC,hN]
  clear hC hN hy hz hu hv hcp hcv h0 h1
  by_cases hC0:C=0
  ·subst hC0
   simp only [if_true]
   generalize r.sn.length=l at*
   generalize r.lg.length=m at*
   generalize o.sn.length=l2 at*
   generalize o.lg.length=m2 at*
   generalize r.tm=a at*
   generalize r.vt=b at*
   generalize r.si=c at*
   generalize r.st=d at*
   generalize o.tm=a2 at*
   generalize o.vt=b2 at*
   generalize o.si=c2 at*
   generalize o.st=d2 at*
   subst h
   have BA0:=below_on (below_alloc w (.cells #[.int .i64 a,.int .i64 b,.int .i64 c,.int .i64 d,.slice ay l cy,.slice az m cz] 27)) (below_alloc _ (.cells #[.int .i64 0,.int .i64 0,.int .i64 0,.int .i64 0,.int .i64 0,.int .i64 0,.int .i64 0,.slice none 0 0,.slice none 0 0] 33))
   have VR0:=(Var6_new w (.int .i64 a) (.int .i64 b) (.int .i64 c) (.int .i64 d) (.slice ay l cy) (.slice az m cz) 27).later (below_alloc _ (.cells #[.int .i64 0,.int .i64 0,.int .i64 0,.int .i64 0,.int .i64 0,.int .i64 0,.int .i64 0,.slice none 0 0,.slice none 0 0] 33))
   have RA0:=Res9.new (below_alloc w (.cells #[.int .i64 a,.int .i64 b,.int .i64 c,.int .i64 d,.slice ay l cy,.slice az m cz] 27)) 33
   rw [World.size_alloc] at RA0
   obtain ⟨W2,hW2⟩: ∃x,((w.alloc (.cells #[.int .i64 a,.int .i64 b,.int .i64 c,.int .i64 d,.slice ay l cy,.slice az m cz] 27)).alloc (.cells #[.int .i64 0,.int .i64 0,.int .i64 0,.int .i64 0,.int .i64 0,.int .i64 0,.int .i64 0,.slice none 0 0,.slice none 0 0] 33))=x:=⟨_,rfl⟩
   have hs2:W2.heap.size=w.heap.size+2:=by rw [← hW2];simp
   rw [hW2] at BA0 VR0 RA0
   have BA2:=hide BA0
   have VA2:=hide VR0
   have RA2:=hide RA0
   clear BA0 VR0 RA0
   go_enter Tryz.func27,Tryz.ntmps27
   go_upto_region 1 with fail
   (try rw [hW2])
   clear hW2
   go_upto_region 2 with fail
   have hbd:=below_alloc W2 (.cells #[.int .i64 0,.int .i64 0,.int .i64 0,.int .i64 0,.int .i64 0,.slice none 0 0,.slice none 0 0] 79)
   have BA:=hide (below_on BA2.out hbd)
   have VA:=hide (VA2.out.later hbd)
   have RA:=hide (RA2.out.later hbd)
   have XA0:=Var7_new W2 (.int .i64 0) (.int .i64 0) (.int .i64 0) (.int .i64 0) (.int .i64 0) (.slice none 0 0) (.slice none 0 0) 79
   rw [hs2] at XA0
   have XA:=hide XA0
   have XF0: ∀q,(W2.alloc (.cells #[.int .i64 0,.int .i64 0,.int .i64 0,.int .i64 0,.int .i64 0,.slice none 0 0,.slice none 0 0] 79)).frozen? ⟨w.heap.size+2,q,none⟩=false:=fun q=>by rw [← hs2];simp [go_sem]
   have XF:=hide XF0
   obtain ⟨W3,hW3⟩: ∃x,W2.alloc (.cells #[.int .i64 0,.int .i64 0,.int .i64 0,.int .i64 0,.int .i64 0,.slice none 0 0,.slice none 0 0] 79)=x:=⟨_,rfl⟩
   have hs3:W3.heap.size=w.heap.size+3:=by rw [← hW3];simp [hs2]
   rw [hW3] at BA VA RA XA XF
   (try rw [hW3])
   (try simp only [hs2])
   have OA:=hide (HO6.out.later BA.out)
   clear hbd XA0 XF0 hW3 BA2 VA2 RA2 hs2 HO6
   obtain ⟨v0,v1,v2,v3,v4,v5⟩:=VA.out
   obtain ⟨p0,p1,p2,p3,p4,p5⟩:=OA.out
   go_upto_region 10 with fail
   refine wp_region_held_drew (S:=fun w'=>w'.cell? ⟨w.heap.size,0,none⟩=some (.int .i64 a)∧w'.cell? ⟨w.heap.size,1,none⟩=some (.int .i64 b)∧w'.cell? ⟨w.heap.size,2,none⟩=some (.int .i64 c)∧w'.cell? ⟨w.heap.size,3,none⟩=some (.int .i64 d)∧w'.cell? ⟨w.heap.size,4,none⟩=some (.slice ay l cy)∧w'.cell? ⟨w.heap.size,5,none⟩=some (.slice az m cz)∧w'.cell? ⟨bk,ob,none⟩=some (.int .i64 3)∧w'.cell? ⟨bk,ob+1,none⟩=some (.int .i64 b2)∧w'.cell? ⟨bk,ob+2,none⟩=some (.int .i64 c2)∧w'.cell? ⟨bk,ob+3,none⟩=some (.int .i64 d2)∧w'.cell? ⟨bk,ob+4,none⟩=some (.slice au l2 cu)∧w'.cell? ⟨bk,ob+5,none⟩=some (.slice av m2 cv)) (by kernel_rfl) ⟨v0,v1,v2,v3,v4,v5,p0,p1,p2,p3,p4,p5⟩ (fun hHeld0=>?_)
   refine forgetH (fun wx=>(wx.cell? ⟨w.heap.size,0,none⟩=some (.int .i64 a)∧wx.cell? ⟨w.heap.size,1,none⟩=some (.int .i64 b)∧wx.cell? ⟨w.heap.size,2,none⟩=some (.int .i64 c)∧wx.cell? ⟨w.heap.size,3,none⟩=some (.int .i64 d)∧wx.cell? ⟨w.heap.size,4,none⟩=some (.slice ay l cy)∧wx.cell? ⟨w.heap.size,5,none⟩=some (.slice az m cz)∧wx.cell? ⟨bk,ob,none⟩=some (.int .i64 3)∧wx.cell? ⟨bk,ob+1,none⟩=some (.int .i64 b2)∧wx.cell? ⟨bk,ob+2,none⟩=some (.int .i64 c2)∧wx.cell? ⟨bk,ob+3,none⟩=some (.int .i64 d2)∧wx.cell? ⟨bk,ob+4,none⟩=some (.slice au l2 cu)∧wx.cell? ⟨bk,ob+5,none⟩=some (.slice av m2 cv))∧Below W3.heap.size W3 wx) ⟨hHeld0,below_drewN W3 1⟩ ?_
   clear hHeld0 v0 v1 v2 v3 v4 v5 p0 p1 p2 p3 p4 p5
   rintro X0 ⟨hHeld,hbx⟩
   obtain ⟨P0,P1,P2,P3,P4,P5,P6,P7,P8,P9,P10,P11⟩:=id hHeld
   have hx0:=hbx.size
   have BX:=hide (below_on BA.out hbx)
   have RX:=hide (RA.out.later hbx)
   have XX:=hide (XA.out.later hbx)
   have XFX:Hid (∀q,X0.frozen? ⟨w.heap.size+2,q,none⟩=false):=fun q=>((bcell hbx).2 _ _ XA.out.lt).trans (XF.out q)
   clear hbx BA VA RA XA OA XF
   refine wpAnyH_take (i:=0) (v:=?vt53) rfl (by kernel_rfl) (by kernel_rfl) (by kernel_rfl) (fun _ _ _ h=>h) (Or.inl ⟨by rfl,?ht53⟩) hHeld ?rt53
   case ht53=>intro w9 hSw;(try dsimp only at hSw);first | (go_simp;done) | (go_simp;with_reducible rfl)
   try simp only [Act.put,List.setIfInBounds_toArray,List.set_cons_zero,List.set_cons_succ,List.getElem_toArray,List.getElem_cons_zero,List.getElem_cons_succ]
   refine wpAnyH_take (i:=1) (v:=?vt54) rfl (by kernel_rfl) (by kernel_rfl) (by kernel_rfl) (fun _ _ _ h=>h) (Or.inl ⟨by rfl,?ht54⟩) hHeld ?rt54
   case ht54=>intro w9 hSw;(try dsimp only at hSw);first | (go_simp;done) | (go_simp;with_reducible rfl)
   try simp only [Act.put,List.setIfInBounds_toArray,List.set_cons_zero,List.set_cons_succ,List.getElem_toArray,List.getElem_cons_zero,List.getElem_cons_succ]
   refine wpAnyH_take (i:=2) (v:=?vt55) rfl (by kernel_rfl) (by kernel_rfl) (by kernel_rfl) (fun _ _ _ h=>h) (Or.inl ⟨by rfl,?ht55⟩) hHeld ?rt55
   case ht55=>intro w9 hSw;(try dsimp only at hSw);first | (go_simp;done) | (go_simp;with_reducible rfl)
   try simp only [Act.put,List.setIfInBounds_toArray,List.set_cons_zero,List.set_cons_succ,List.getElem_toArray,List.getElem_cons_zero,List.getElem_cons_succ]
   refine wpAnyH_take (i:=3) (v:=?vt56) rfl (by kernel_rfl) (by kernel_rfl) (by kernel_rfl) (fun _ _ _ h=>h) (Or.inl ⟨by rfl,?ht56⟩) hHeld ?rt56
   case ht56=>intro w9 hSw;(try dsimp only at hSw);first | (go_simp;done) | (go_simp;with_reducible rfl)
   try simp only [Act.put,List.setIfInBounds_toArray,List.set_cons_zero,List.set_cons_succ,List.getElem_toArray,List.getElem_cons_zero,List.getElem_cons_succ]
   refine wpAnyH_take (i:=4) (v:=?vt57) rfl (by kernel_rfl) (by kernel_rfl) (by kernel_rfl) (fun _ _ _ h=>h) (Or.inl ⟨by rfl,?ht57⟩) hHeld ?rt57
   case ht57=>intro w9 hSw;(try dsimp only at hSw);first | (go_simp;done) | (go_simp;with_reducible rfl)
   try simp only [Act.put,List.setIfInBounds_toArray,List.set_cons_zero,List.set_cons_succ,List.getElem_toArray,List.getElem_cons_zero,List.getElem_cons_succ]
   refine wpAnyH_take (i:=5) (v:=?vt58) rfl (by kernel_rfl) (by kernel_rfl) (by kernel_rfl) (fun _ _ _ h=>h) (Or.inl ⟨by rfl,?ht58⟩) hHeld ?rt58
   case ht58=>intro w9 hSw;(try dsimp only at hSw);first | (go_simp;done) | (go_simp;with_reducible rfl)
   try simp only [Act.put,List.setIfInBounds_toArray,List.set_cons_zero,List.set_cons_succ,List.getElem_toArray,List.getElem_cons_zero,List.getElem_cons_succ]
   refine wpAnyH_take (i:=6) (v:=?vt59) rfl (by kernel_rfl) (by kernel_rfl) (by kernel_rfl) (fun _ _ _ h=>h) (Or.inl ⟨by rfl,?ht59⟩) hHeld ?rt59
   case ht59=>intro w9 hSw;(try dsimp only at hSw);first | (go_simp;done) | (go_simp;with_reducible rfl)
   try simp only [Act.put,List.setIfInBounds_toArray,List.set_cons_zero,List.set_cons_succ,List.getElem_toArray,List.getElem_cons_zero,List.getElem_cons_succ]
   refine wpAnyH_take (i:=7) (v:=?vt60) rfl (by kernel_rfl) (by kernel_rfl) (by kernel_rfl) (fun _ _ _ h=>h) (Or.inl ⟨by rfl,?ht60⟩) hHeld ?rt60
   case ht60=>intro w9 hSw;(try dsimp only at hSw);first | (go_simp;done) | (go_simp;with_reducible rfl)
   try simp only [Act.put,List.setIfInBounds_toArray,List.set_cons_zero,List.set_cons_succ,List.getElem_toArray,List.getElem_cons_zero,List.getElem_cons_succ]
   refine wpAnyH_take (i:=8) (v:=?vt61) rfl (by kernel_rfl) (by kernel_rfl) (by kernel_rfl) (fun _ _ _ h=>h) (Or.inl ⟨by rfl,?ht61⟩) hHeld ?rt61
   case ht61=>intro w9 hSw;(try dsimp only at hSw);first | (go_simp;done) | (go_simp;with_reducible rfl)
   try simp only [Act.put,List.setIfInBounds_toArray,List.set_cons_zero,List.set_cons_succ,List.getElem_toArray,List.getElem_cons_zero,List.getElem_cons_succ]
   refine wpAnyH_ready (rs:=[9]) (by kernel_rfl) (by simp) (AllReadyH.cons rfl (fun K hK=>?_) (AllReadyH.nil))
   go_simp
   go_at_call 46
   refine (HD.out _ BX.out).mono ?_
   rintro e X1 ⟨y1,z1,rfl,hb,ho⟩
   obtain ⟨a1,k1,g1,j1,rfl,rfl⟩:=ho.shape
   have Q0:=cell_later hb P0
   have Q1:=cell_later hb P1
   have Q2:=cell_later hb P2
   have Q3:=cell_later hb P3
   have Q4:=cell_later hb P4
   have Q5:=cell_later hb P5
   have Q6:=cell_later hb P6
   have Q7:=cell_later hb P7
   have Q8:=cell_later hb P8
   have Q9:=cell_later hb P9
   have Q10:=cell_later hb P10
   have Q11:=cell_later hb P11
   refine hK.out _ _ ⟨Q0,Q1,Q2,Q3,Q4,Q5,Q6,Q7,Q8,Q9,Q10,Q11⟩ (fun _=>?_)
   clear hK K HD
   try simp only [Act.put,List.setIfInBounds_toArray,List.set_cons_zero,List.set_cons_succ,List.getElem_toArray,List.getElem_cons_zero,List.getElem_cons_succ]
   have BY:=hide (below_on BX.out hb)
   have RY:=hide (RX.out.later hb)
   have XY:=hide (XX.out.later hb)
   have XFY:Hid (∀q,X1.frozen? ⟨w.heap.size+2,q,none⟩=false):=fun q=>((bcell hb).2 _ _ XX.out.lt).trans (XFX.out q)
   have IY:=hide ho
   have hx1:=hb.size
   clear hb ho hHeld BX RX XX XFX P0 P1 P2 P3 P4 P5 P6 P7 P8 P9 P10 P11
   obtain ⟨x0,x1,x2,x3,x4,x5,x6⟩:=XY.out
   have e0:=XFY.out 0
   have e1:=XFY.out 1
   have e2:=XFY.out 2
   have e3:=XFY.out 3
   have e4:=XFY.out 4
   have e5:=XFY.out 5
   have e6:=XFY.out 6
   refine wpAnyH_ready (rs:=[10]) (by kernel_rfl) (by simp) (AllReadyH.cons rfl (fun K hK=>?_) (AllReadyH.nil))
   go_simp
   have hn0:w.heap.size≠w.heap.size+2:=by omega
   have hn1:bk≠w.heap.size+2:=by omega
   refine hK.out _ _ ⟨(set7_otherD hn0).trans Q0,(set7_otherD hn0).trans Q1,(set7_otherD hn0).trans Q2,(set7_otherD hn0).trans Q3,(set7_otherD hn0).trans Q4,(set7_otherD hn0).trans Q5,(set7_otherD hn1).trans Q6,(set7_otherD hn1).trans Q7,(set7_otherD hn1).trans Q8,(set7_otherD hn1).trans Q9,(set7_otherD hn1).trans Q10,(set7_otherD hn1).trans Q11⟩ (fun _=>?_)
   clear hK K
   try simp only [Act.put,List.setIfInBounds_toArray,List.set_cons_zero,List.set_cons_succ,List.getElem_toArray,List.getElem_cons_zero,List.getElem_cons_succ]
   refine wpAnyH_done (by kernel_rfl) ?_ _
   refine forgetX (fun W5=>Var7 W5 (w.heap.size+2) (.int .i64 0) (.int .i64 N.tm) (.int .i64 N.vt) (.int .i64 N.si) (.int .i64 N.st) (.slice a1 N.sn.length k1) (.slice g1 N.lg.length j1)∧Var6 W5 w.heap.size (.int .i64 a) (.int .i64 b) (.int .i64 c) (.int .i64 d) (.slice ay l cy) (.slice az m cz)∧Res9 w W5 (w.heap.size+1)∧(∃lo,w.heap.size+2<lo∧IvR lo W5.heap.size W5 (.slice a1 N.sn.length k1) (.slice g1 N.lg.length j1) N.sn N.lg)) ?sc3True ?_
   case sc3True=>
    have hw5:Wr (fun x=>x=w.heap.size+2) X1 (((((((X1.setCell ⟨w.heap.size+2,0,none⟩ (.int .i64 0)).setCell ⟨w.heap.size+2,1,none⟩ (.int .i64 N.tm)).setCell ⟨w.heap.size+2,2,none⟩ (.int .i64 N.vt)).setCell ⟨w.heap.size+2,3,none⟩ (.int .i64 N.si)).setCell ⟨w.heap.size+2,4,none⟩ (.int .i64 N.st)).setCell ⟨w.heap.size+2,5,none⟩ (.slice a1 N.sn.length k1)).setCell ⟨w.heap.size+2,6,none⟩ (.slice g1 N.lg.length j1)):=(Wr.setCell (p:=⟨w.heap.size+2,6,none⟩) (Wr.setCell (p:=⟨w.heap.size+2,5,none⟩) (Wr.setCell (p:=⟨w.heap.size+2,4,none⟩) (Wr.setCell (p:=⟨w.heap.size+2,3,none⟩) (Wr.setCell (p:=⟨w.heap.size+2,2,none⟩) (Wr.setCell (p:=⟨w.heap.size+2,1,none⟩) (Wr.setCell (p:=⟨w.heap.size+2,0,none⟩) (Wr.refl (fun x=>x=w.heap.size+2) _) rfl (.int .i64 0)) rfl (.int .i64 N.tm)) rfl (.int .i64 N.vt)) rfl (.int .i64 N.si)) rfl (.int .i64 N.st)) rfl (.slice a1 N.sn.length k1)) rfl (.slice g1 N.lg.length j1))
    exact ⟨⟨by simp [go_sem,x0],by simp [go_sem,x1],by simp [go_sem,x2],by simp [go_sem,x3],by simp [go_sem,x4],by simp [go_sem,x5],by simp [go_sem,x6]⟩,⟨(set7_otherD hn0).trans Q0,(set7_otherD hn0).trans Q1,(set7_otherD hn0).trans Q2,(set7_otherD hn0).trans Q3,(set7_otherD hn0).trans Q4,(set7_otherD hn0).trans Q5⟩,RY.out.wr hw5 (by omega) (fun b hb=>by omega),X0.heap.size,by omega,(IY.out.wr hw5 (fun b h1 h2 e=>by omega)).up (Nat.le_refl _) hw5.size⟩
   clear Q0 Q1 Q2 Q3 Q4 Q5 Q6 Q7 Q8 Q9 Q10 Q11 x0 x1 x2 x3 x4 x5 x6 e0 e1 e2 e3 e4 e5 e6 hn0 hn1 BY RY XY XFY IY
   rintro W5 ⟨N7,V6,R9,lo,hlo,I5⟩
   have HN7:=hide N7
   have HV6:=hide V6
   have HR9:=hide R9
   have HI5:=hide I5
   obtain ⟨n0,n1,n2,n3,n4,n5,n6⟩:=N7
   clear V6 R9 I5
   have HFn:=hide (ret_op (w:=w) (r:=w.heap.size+1) (x0:=.int .i64 0) (x1:=.int .i64 0) (x2:=.int .i64 0) (x3:=.int .i64 N.tm) (x4:=.int .i64 N.vt) (x5:=.int .i64 N.si) (x6:=.int .i64 N.st) HR9.out.below HR9.out.ge HI5.out (by omega))
   obtain ⟨_,⟨c0,c1,c2,c3,c4,c5,c6,c7,c8⟩,F,_⟩:=HR9.out
   have f0:=F 0
   have f1:=F 1
   have f2:=F 2
   have f3:=F 3
   have f4:=F 4
   have f5:=F 5
   have f6:=F 6
   have f7:=F 7
   have f8:=F 8
   clear F
   go_wp2
   refine bodyPost_ret (v:=.agg #[.int .i64 0,.int .i64 0,.int .i64 0,.int .i64 N.tm,.int .i64 N.vt,.int .i64 N.si,.int .i64 N.st,.slice a1 N.sn.length k1,.slice g1 N.lg.length j1]) (by simp [results,Tryz.results27,go_sem,c0,c1,c2,c3,c4,c5,c6,c7,c8]) rfl ⟨_,_,rfl,HFn.out.1,HFn.out.2⟩
  ·simp only [if_neg hC0]
   have hCb:(C==0)=false:=by simpa using hC0
   have hCc:(C !=0)=true:=by simp [hC0]
   generalize r.sn.length=l at*
   generalize r.lg.length=m at*
   generalize o.sn.length=l2 at*
   generalize o.lg.length=m2 at*
   generalize r.tm=a at*
   generalize r.vt=b at*
   generalize r.si=c at*
   generalize r.st=d at*
   generalize o.tm=a2 at*
   generalize o.vt=b2 at*
   generalize o.si=c2 at*
   generalize o.st=d2 at*
   subst h
   have BA0:=below_on (below_alloc w (.cells #[.int .i64 a,.int .i64 b,.int .i64 c,.int .i64 d,.slice ay l cy,.slice az m cz] 27)) (below_alloc _ (.cells #[.int .i64 0,.int .i64 0,.int .i64 0,.int .i64 0,.int .i64 0,.int .i64 0,.int .i64 0,.slice none 0 0,.slice none 0 0] 33))
   have VR0:=(Var6_new w (.int .i64 a) (.int .i64 b) (.int .i64 c) (.int .i64 d) (.slice ay l cy) (.slice az m cz) 27).later (below_alloc _ (.cells #[.int .i64 0,.int .i64 0,.int .i64 0,.int .i64 0,.int .i64 0,.int .i64 0,.int .i64 0,.slice none 0 0,.slice none 0 0] 33))
   have RA0:=Res9.new (below_alloc w (.cells #[.int .i64 a,.int .i64 b,.int .i64 c,.int .i64 d,.slice ay l cy,.slice az m cz] 27)) 33
   rw [World.size_alloc] at RA0
   obtain ⟨W2,hW2⟩: ∃x,((w.alloc (.cells #[.int .i64 a,.int .i64 b,.int .i64 c,.int .i64 d,.slice ay l cy,.slice az m cz] 27)).alloc (.cells #[.int .i64 0,.int .i64 0,.int .i64 0,.int .i64 0,.int .i64 0,.int .i64 0,.int .i64 0,.slice none 0 0,.slice none 0 0] 33))=x:=⟨_,rfl⟩
   have hs2:W2.heap.size=w.heap.size+2:=by rw [← hW2];simp
   rw [hW2] at BA0 VR0 RA0
   have BA2:=hide BA0
   have VA2:=hide VR0
   have RA2:=hide RA0
   clear BA0 VR0 RA0
   go_enter Tryz.func27,Tryz.ntmps27
   go_upto_region 1 with fail
   (try rw [hW2])
   clear hW2
   go_upto_region 2 with fail
   have hbd:=below_alloc W2 (.cells #[.int .i64 0,.int .i64 0,.int .i64 0,.int .i64 0,.int .i64 0,.slice none 0 0,.slice none 0 0] 79)
   have BA:=hide (below_on BA2.out hbd)
   have VA:=hide (VA2.out.later hbd)
   have RA:=hide (RA2.out.later hbd)
   have XA0:=Var7_new W2 (.int .i64 0) (.int .i64 0) (.int .i64 0) (.int .i64 0) (.int .i64 0) (.slice none 0 0) (.slice none 0 0) 79
   rw [hs2] at XA0
   have XA:=hide XA0
   have XF0: ∀q,(W2.alloc (.cells #[.int .i64 0,.int .i64 0,.int .i64 0,.int .i64 0,.int .i64 0,.slice none 0 0,.slice none 0 0] 79)).frozen? ⟨w.heap.size+2,q,none⟩=false:=fun q=>by rw [← hs2];simp [go_sem]
   have XF:=hide XF0
   obtain ⟨W3,hW3⟩: ∃x,W2.alloc (.cells #[.int .i64 0,.int .i64 0,.int .i64 0,.int .i64 0,.int .i64 0,.slice none 0 0,.slice none 0 0] 79)=x:=⟨_,rfl⟩
   have hs3:W3.heap.size=w.heap.size+3:=by rw [← hW3];simp [hs2]
   rw [hW3] at BA VA RA XA XF
   (try rw [hW3])
   (try simp only [hs2])
   have OA:=hide (HO6.out.later BA.out)
   clear hbd XA0 XF0 hW3 BA2 VA2 RA2 hs2 HO6
   obtain ⟨v0,v1,v2,v3,v4,v5⟩:=VA.out
   obtain ⟨p0,p1,p2,p3,p4,p5⟩:=OA.out
   go_upto_region 10 with fail
   refine wp_region_held_drew (S:=fun w'=>w'.cell? ⟨w.heap.size,0,none⟩=some (.int .i64 a)∧w'.cell? ⟨w.heap.size,1,none⟩=some (.int .i64 b)∧w'.cell? ⟨w.heap.size,2,none⟩=some (.int .i64 c)∧w'.cell? ⟨w.heap.size,3,none⟩=some (.int .i64 d)∧w'.cell? ⟨w.heap.size,4,none⟩=some (.slice ay l cy)∧w'.cell? ⟨w.heap.size,5,none⟩=some (.slice az m cz)∧w'.cell? ⟨bk,ob,none⟩=some (.int .i64 3)∧w'.cell? ⟨bk,ob+1,none⟩=some (.int .i64 b2)∧w'.cell? ⟨bk,ob+2,none⟩=some (.int .i64 c2)∧w'.cell? ⟨bk,ob+3,none⟩=some (.int .i64 d2)∧w'.cell? ⟨bk,ob+4,none⟩=some (.slice au l2 cu)∧w'.cell? ⟨bk,ob+5,none⟩=some (.slice av m2 cv)) (by kernel_rfl) ⟨v0,v1,v2,v3,v4,v5,p0,p1,p2,p3,p4,p5⟩ (fun hHeld0=>?_)
   refine forgetH (fun wx=>(wx.cell? ⟨w.heap.size,0,none⟩=some (.int .i64 a)∧wx.cell? ⟨w.heap.size,1,none⟩=some (.int .i64 b)∧wx.cell? ⟨w.heap.size,2,none⟩=some (.int .i64 c)∧wx.cell? ⟨w.heap.size,3,none⟩=some (.int .i64 d)∧wx.cell? ⟨w.heap.size,4,none⟩=some (.slice ay l cy)∧wx.cell? ⟨w.heap.size,5,none⟩=some (.slice az m cz)∧wx.cell? ⟨bk,ob,none⟩=some (.int .i64 3)∧wx.cell? ⟨bk,ob+1,none⟩=some (.int .i64 b2)∧wx.cell? ⟨bk,ob+2,none⟩=some (.int .i64 c2)∧wx.cell? ⟨bk,ob+3,none⟩=some (.int .i64 d2)∧wx.cell? ⟨bk,ob+4,none⟩=some (.slice au l2 cu)∧wx.cell? ⟨bk,ob+5,none⟩=some (.slice av m2 cv))∧Below W3.heap.size W3 wx) ⟨hHeld0,below_drewN W3 1⟩ ?_
   clear hHeld0 v0 v1 v2 v3 v4 v5 p0 p1 p2 p3 p4 p5
   rintro X0 ⟨hHeld,hbx⟩
   obtain ⟨P0,P1,P2,P3,P4,P5,P6,P7,P8,P9,P10,P11⟩:=id hHeld
   have hx0:=hbx.size
   have BX:=hide (below_on BA.out hbx)
   have RX:=hide (RA.out.later hbx)
   have XX:=hide (XA.out.later hbx)
   have XFX:Hid (∀q,X0.frozen? ⟨w.heap.size+2,q,none⟩=false):=fun q=>((bcell hbx).2 _ _ XA.out.lt).trans (XF.out q)
   clear hbx BA VA RA XA OA XF
   refine wpAnyH_take (i:=0) (v:=?vt62) rfl (by kernel_rfl) (by kernel_rfl) (by kernel_rfl) (fun _ _ _ h=>h) (Or.inl ⟨by rfl,?ht62⟩) hHeld ?rt62
   case ht62=>intro w9 hSw;(try dsimp only at hSw);first | (go_simp;done) | (go_simp;with_reducible rfl)
   try simp only [Act.put,List.setIfInBounds_toArray,List.set_cons_zero,List.set_cons_succ,List.getElem_toArray,List.getElem_cons_zero,List.getElem_cons_succ]
   refine wpAnyH_take (i:=1) (v:=?vt63) rfl (by kernel_rfl) (by kernel_rfl) (by kernel_rfl) (fun _ _ _ h=>h) (Or.inl ⟨by rfl,?ht63⟩) hHeld ?rt63
   case ht63=>intro w9 hSw;(try dsimp only at hSw);first | (go_simp;done) | (go_simp;with_reducible rfl)
   try simp only [Act.put,List.setIfInBounds_toArray,List.set_cons_zero,List.set_cons_succ,List.getElem_toArray,List.getElem_cons_zero,List.getElem_cons_succ]
   refine wpAnyH_take (i:=2) (v:=?vt64) rfl (by kernel_rfl) (by kernel_rfl) (by kernel_rfl) (fun _ _ _ h=>h) (Or.inl ⟨by rfl,?ht64⟩) hHeld ?rt64
   case ht64=>intro w9 hSw;(try dsimp only at hSw);first | (go_simp;done) | (go_simp;with_reducible rfl)
   try simp only [Act.put,List.setIfInBounds_toArray,List.set_cons_zero,List.set_cons_succ,List.getElem_toArray,List.getElem_cons_zero,List.getElem_cons_succ]
   refine wpAnyH_take (i:=3) (v:=?vt65) rfl (by kernel_rfl) (by kernel_rfl) (by kernel_rfl) (fun _ _ _ h=>h) (Or.inl ⟨by rfl,?ht65⟩) hHeld ?rt65
   case ht65=>intro w9 hSw;(try dsimp only at hSw);first | (go_simp;done) | (go_simp;with_reducible rfl)
   try simp only [Act.put,List.setIfInBounds_toArray,List.set_cons_zero,List.set_cons_succ,List.getElem_toArray,List.getElem_cons_zero,List.getElem_cons_succ]
   refine wpAnyH_take (i:=4) (v:=?vt66) rfl (by kernel_rfl) (by kernel_rfl) (by kernel_rfl) (fun _ _ _ h=>h) (Or.inl ⟨by rfl,?ht66⟩) hHeld ?rt66
   case ht66=>intro w9 hSw;(try dsimp only at hSw);first | (go_simp;done) | (go_simp;with_reducible rfl)
   try simp only [Act.put,List.setIfInBounds_toArray,List.set_cons_zero,List.set_cons_succ,List.getElem_toArray,List.getElem_cons_zero,List.getElem_cons_succ]
   refine wpAnyH_take (i:=5) (v:=?vt67) rfl (by kernel_rfl) (by kernel_rfl) (by kernel_rfl) (fun _ _ _ h=>h) (Or.inl ⟨by rfl,?ht67⟩) hHeld ?rt67
   case ht67=>intro w9 hSw;(try dsimp only at hSw);first | (go_simp;done) | (go_simp;with_reducible rfl)
   try simp only [Act.put,List.setIfInBounds_toArray,List.set_cons_zero,List.set_cons_succ,List.getElem_toArray,List.getElem_cons_zero,List.getElem_cons_succ]
   refine wpAnyH_take (i:=6) (v:=?vt68) rfl (by kernel_rfl) (by kernel_rfl) (by kernel_rfl) (fun _ _ _ h=>h) (Or.inl ⟨by rfl,?ht68⟩) hHeld ?rt68
   case ht68=>intro w9 hSw;(try dsimp only at hSw);first | (go_simp;done) | (go_simp;with_reducible rfl)
   try simp only [Act.put,List.setIfInBounds_toArray,List.set_cons_zero,List.set_cons_succ,List.getElem_toArray,List.getElem_cons_zero,List.getElem_cons_succ]
   refine wpAnyH_take (i:=7) (v:=?vt69) rfl (by kernel_rfl) (by kernel_rfl) (by kernel_rfl) (fun _ _ _ h=>h) (Or.inl ⟨by rfl,?ht69⟩) hHeld ?rt69
   case ht69=>intro w9 hSw;(try dsimp only at hSw);first | (go_simp;done) | (go_simp;with_reducible rfl)
   try simp only [Act.put,List.setIfInBounds_toArray,List.set_cons_zero,List.set_cons_succ,List.getElem_toArray,List.getElem_cons_zero,List.getElem_cons_succ]
   refine wpAnyH_take (i:=8) (v:=?vt70) rfl (by kernel_rfl) (by kernel_rfl) (by kernel_rfl) (fun _ _ _ h=>h) (Or.inl ⟨by rfl,?ht70⟩) hHeld ?rt70
   case ht70=>intro w9 hSw;(try dsimp only at hSw);first | (go_simp;done) | (go_simp;with_reducible rfl)
   try simp only [Act.put,List.setIfInBounds_toArray,List.set_cons_zero,List.set_cons_succ,List.getElem_toArray,List.getElem_cons_zero,List.getElem_cons_succ]
   refine wpAnyH_ready (rs:=[9]) (by kernel_rfl) (by simp) (AllReadyH.cons rfl (fun K hK=>?_) (AllReadyH.nil))
   go_simp
   go_at_call 46
   refine (HD.out _ BX.out).mono ?_
   rintro e X1 ⟨y1,z1,rfl,hb,ho⟩
   obtain ⟨a1,k1,g1,j1,rfl,rfl⟩:=ho.shape
   have Q0:=cell_later hb P0
   have Q1:=cell_later hb P1
   have Q2:=cell_later hb P2
   have Q3:=cell_later hb P3
   have Q4:=cell_later hb P4
   have Q5:=cell_later hb P5
   have Q6:=cell_later hb P6
   have Q7:=cell_later hb P7
   have Q8:=cell_later hb P8
   have Q9:=cell_later hb P9
   have Q10:=cell_later hb P10
   have Q11:=cell_later hb P11
   refine hK.out _ _ ⟨Q0,Q1,Q2,Q3,Q4,Q5,Q6,Q7,Q8,Q9,Q10,Q11⟩ (fun _=>?_)
   clear hK K HD
   try simp only [Act.put,List.setIfInBounds_toArray,List.set_cons_zero,List.set_cons_succ,List.getElem_toArray,List.getElem_cons_zero,List.getElem_cons_succ]
   have BY:=hide (below_on BX.out hb)
   have RY:=hide (RX.out.later hb)
   have XY:=hide (XX.out.later hb)
   have XFY:Hid (∀q,X1.frozen? ⟨w.heap.size+2,q,none⟩=false):=fun q=>((bcell hb).2 _ _ XX.out.lt).trans (XFX.out q)
   have IY:=hide ho
   have hx1:=hb.size
   clear hb ho hHeld BX RX XX XFX P0 P1 P2 P3 P4 P5 P6 P7 P8 P9 P10 P11
   obtain ⟨x0,x1,x2,x3,x4,x5,x6⟩:=XY.out
   have e0:=XFY.out 0
   have e1:=XFY.out 1
   have e2:=XFY.out 2
   have e3:=XFY.out 3
   have e4:=XFY.out 4
   have e5:=XFY.out 5
   have e6:=XFY.out 6
   refine wpAnyH_ready (rs:=[10]) (by kernel_rfl) (by simp) (AllReadyH.cons rfl (fun K hK=>?_) (AllReadyH.nil))
   go_simp
   have hn0:w.heap.size≠w.heap.size+2:=by omega
   have hn1:bk≠w.heap.size+2:=by omega
   refine hK.out _ _ ⟨(set7_otherD hn0).trans Q0,(set7_otherD hn0).trans Q1,(set7_otherD hn0).trans Q2,(set7_otherD hn0).trans Q3,(set7_otherD hn0).trans Q4,(set7_otherD hn0).trans Q5,(set7_otherD hn1).trans Q6,(set7_otherD hn1).trans Q7,(set7_otherD hn1).trans Q8,(set7_otherD hn1).trans Q9,(set7_otherD hn1).trans Q10,(set7_otherD hn1).trans Q11⟩ (fun _=>?_)
   clear hK K
   try simp only [Act.put,List.setIfInBounds_toArray,List.set_cons_zero,List.set_cons_succ,List.getElem_toArray,List.getElem_cons_zero,List.getElem_cons_succ]
   refine wpAnyH_done (by kernel_rfl) ?_ _
   refine forgetX (fun W5=>Var7 W5 (w.heap.size+2) (.int .i64 C) (.int .i64 N.tm) (.int .i64 N.vt) (.int .i64 N.si) (.int .i64 N.st) (.slice a1 N.sn.length k1) (.slice g1 N.lg.length j1)∧Var6 W5 w.heap.size (.int .i64 a) (.int .i64 b) (.int .i64 c) (.int .i64 d) (.slice ay l cy) (.slice az m cz)∧Res9 w W5 (w.heap.size+1)∧(∃lo,w.heap.size+2<lo∧IvR lo W5.heap.size W5 (.slice a1 N.sn.length k1) (.slice g1 N.lg.length j1) N.sn N.lg)) ?sc3False ?_
   case sc3False=>
    have hw5:Wr (fun x=>x=w.heap.size+2) X1 (((((((X1.setCell ⟨w.heap.size+2,0,none⟩ (.int .i64 C)).setCell ⟨w.heap.size+2,1,none⟩ (.int .i64 N.tm)).setCell ⟨w.heap.size+2,2,none⟩ (.int .i64 N.vt)).setCell ⟨w.heap.size+2,3,none⟩ (.int .i64 N.si)).setCell ⟨w.heap.size+2,4,none⟩ (.int .i64 N.st)).setCell ⟨w.heap.size+2,5,none⟩ (.slice a1 N.sn.length k1)).setCell ⟨w.heap.size+2,6,none⟩ (.slice g1 N.lg.length j1)):=(Wr.setCell (p:=⟨w.heap.size+2,6,none⟩) (Wr.setCell (p:=⟨w.heap.size+2,5,none⟩) (Wr.setCell (p:=⟨w.heap.size+2,4,none⟩) (Wr.setCell (p:=⟨w.heap.size+2,3,none⟩) (Wr.setCell (p:=⟨w.heap.size+2,2,none⟩) (Wr.setCell (p:=⟨w.heap.size+2,1,none⟩) (Wr.setCell (p:=⟨w.heap.size+2,0,none⟩) (Wr.refl (fun x=>x=w.heap.size+2) _) rfl (.int .i64 C)) rfl (.int .i64 N.tm)) rfl (.int .i64 N.vt)) rfl (.int .i64 N.si)) rfl (.int .i64 N.st)) rfl (.slice a1 N.sn.length k1)) rfl (.slice g1 N.lg.length j1))
    exact ⟨⟨by simp [go_sem,x0],by simp [go_sem,x1],by simp [go_sem,x2],by simp [go_sem,x3],by simp [go_sem,x4],by simp [go_sem,x5],by simp [go_sem,x6]⟩,⟨(set7_otherD hn0).trans Q0,(set7_otherD hn0).trans Q1,(set7_otherD hn0).trans Q2,(set7_otherD hn0).trans Q3,(set7_otherD hn0).trans Q4,(set7_otherD hn0).trans Q5⟩,RY.out.wr hw5 (by omega) (fun b hb=>by omega),X0.heap.size,by omega,(IY.out.wr hw5 (fun b h1 h2 e=>by omega)).up (Nat.le_refl _) hw5.size⟩
   clear Q0 Q1 Q2 Q3 Q4 Q5 Q6 Q7 Q8 Q9 Q10 Q11 x0 x1 x2 x3 x4 x5 x6 e0 e1 e2 e3 e4 e5 e6 hn0 hn1 BY RY XY XFY IY
   rintro W5 ⟨N7,V6,R9,lo,hlo,I5⟩
   have HN7:=hide N7
   have HV6:=hide V6
   have HR9:=hide R9
   have HI5:=hide I5
   obtain ⟨n0,n1,n2,n3,n4,n5,n6⟩:=N7
   clear V6 R9 I5
   obtain ⟨v0,v1,v2,v3,v4,v5⟩:=HV6.out
   go_upto_region 14 with fail
   refine wp_region_held_drew (S:=fun w'=>w'.cell? ⟨w.heap.size+2,0,none⟩=some (.int .i64 C)∧w'.cell? ⟨w.heap.size,0,none⟩=some (.int .i64 a)∧w'.cell? ⟨w.heap.size,1,none⟩=some (.int .i64 b)∧w'.cell? ⟨w.heap.size,2,none⟩=some (.int .i64 c)∧w'.cell? ⟨w.heap.size,3,none⟩=some (.int .i64 d)∧w'.cell? ⟨w.heap.size,4,none⟩=some (.slice ay l cy)∧w'.cell? ⟨w.heap.size,5,none⟩=some (.slice az m cz)) (by kernel_rfl) ⟨n0,v0,v1,v2,v3,v4,v5⟩ (fun hHeld0=>?_)
   refine forgetH (fun wx=>(wx.cell? ⟨w.heap.size+2,0,none⟩=some (.int .i64 C)∧wx.cell? ⟨w.heap.size,0,none⟩=some (.int .i64 a)∧wx.cell? ⟨w.heap.size,1,none⟩=some (.int .i64 b)∧wx.cell? ⟨w.heap.size,2,none⟩=some (.int .i64 c)∧wx.cell? ⟨w.heap.size,3,none⟩=some (.int .i64 d)∧wx.cell? ⟨w.heap.size,4,none⟩=some (.slice ay l cy)∧wx.cell? ⟨w.heap.size,5,none⟩=some (.slice az m cz))∧Below W5.heap.size W5 wx) ⟨hHeld0,below_drewN W5 1⟩ ?_
   clear hHeld0
   rintro Y0 ⟨hHeld,hbx⟩
   obtain ⟨P0,P1,P2,P3,P4,P5,P6⟩:=id hHeld
   have RX:=hide (HR9.out.later hbx)
   have hy0:=hbx.size
   clear hbx
   refine wpAnyH_take (i:=0) (v:=?vt71) rfl (by kernel_rfl) (by kernel_rfl) (by kernel_rfl) (fun _ _ _ h=>h) (Or.inl ⟨by rfl,?ht71⟩) hHeld ?rt71
   case ht71=>intro w9 hSw;(try dsimp only at hSw);first | (go_simp;done) | (go_simp;with_reducible rfl)
   try simp only [Act.put,List.setIfInBounds_toArray,List.set_cons_zero,List.set_cons_succ,List.getElem_toArray,List.getElem_cons_zero,List.getElem_cons_succ]
   refine wpAnyH_take (i:=1) (v:=?vt72) rfl (by kernel_rfl) (by kernel_rfl) (by kernel_rfl) (fun _ _ _ h=>h) (Or.inl ⟨by rfl,?ht72⟩) hHeld ?rt72
   case ht72=>intro w9 hSw;(try dsimp only at hSw);first | (go_simp;done) | (go_simp;with_reducible rfl)
   try simp only [Act.put,List.setIfInBounds_toArray,List.set_cons_zero,List.set_cons_succ,List.getElem_toArray,List.getElem_cons_zero,List.getElem_cons_succ]
   refine wpAnyH_take (i:=2) (v:=?vt73) rfl (by kernel_rfl) (by kernel_rfl) (by kernel_rfl) (fun _ _ _ h=>h) (Or.inl ⟨by rfl,?ht73⟩) hHeld ?rt73
   case ht73=>intro w9 hSw;(try dsimp only at hSw);first | (go_simp;done) | (go_simp;with_reducible rfl)
   try simp only [Act.put,List.setIfInBounds_toArray,List.set_cons_zero,List.set_cons_succ,List.getElem_toArray,List.getElem_cons_zero,List.getElem_cons_succ]
   refine wpAnyH_ready (rs:=[3]) (by kernel_rfl) (by simp) (AllReadyH.cons rfl (fun K hK=>?_) (AllReadyH.nil))
   go_simp
   go_at_call 43
   have HCq:=hide (HCp.out _ RX.out.below)
   refine HCq.out.mono ?_
   rintro e Y1 ⟨y7,z7,rfl,hb,ho⟩
   obtain ⟨a7,k7,g7,j7,hy7,hz7⟩:=ho.shape
   subst hy7
   subst hz7
   have Q0:=cell_later hb P0
   have Q1:=cell_later hb P1
   have Q2:=cell_later hb P2
   have Q3:=cell_later hb P3
   have Q4:=cell_later hb P4
   have Q5:=cell_later hb P5
   have Q6:=cell_later hb P6
   refine hK.out _ _ ⟨Q0,Q1,Q2,Q3,Q4,Q5,Q6⟩ (fun _=>?_)
   clear hK K
   try simp only [Act.put,List.setIfInBounds_toArray,List.set_cons_zero,List.set_cons_succ,List.getElem_toArray,List.getElem_cons_zero,List.getElem_cons_succ]
   have RY:=hide (RX.out.later hb)
   have hxr:=RX.out.lt
   have IY:=hide ho
   clear hb ho hHeld P0 P1 P2 P3 P4 P5 P6
   refine wpAnyH_take (i:=4) (v:=?vt74) rfl (by kernel_rfl) (by kernel_rfl) (by kernel_rfl) (fun _ _ _ h=>h) (Or.inl ⟨by rfl,?ht74⟩) ⟨Q0,Q1,Q2,Q3,Q4,Q5,Q6⟩ ?rt74
   case ht74=>intro w9 hSw;(try dsimp only at hSw);first | (go_simp;done) | (go_simp;with_reducible rfl)
   try simp only [Act.put,List.setIfInBounds_toArray,List.set_cons_zero,List.set_cons_succ,List.getElem_toArray,List.getElem_cons_zero,List.getElem_cons_succ]
   have HFn:=hide (ret_op (w:=w) (r:=w.heap.size+1) (x0:=.int .i64 0) (x1:=.int .i64 C) (x2:=.int .i64 0) (x3:=.int .i64 a) (x4:=.int .i64 b) (x5:=.int .i64 c) (x6:=.int .i64 d) RY.out.below RY.out.ge IY.out (by omega))
   obtain ⟨_,⟨c0,c1,c2,c3,c4,c5,c6,c7,c8⟩,F,_⟩:=RY.out
   have f0:=F 0
   have f1:=F 1
   have f2:=F 2
   have f3:=F 3
   have f4:=F 4
   have f5:=F 5
   have f6:=F 6
   have f7:=F 7
   have f8:=F 8
   clear F
   refine wpAnyH_ready (rs:=[5]) (by kernel_rfl) (by simp) (AllReadyH.cons rfl (fun K hK=>?_) (AllReadyH.nil))
   go_simp
   refine hK.out _ _ ⟨(set9_other (by omega)).trans Q0,(set9_other (by omega)).trans Q1,(set9_other (by omega)).trans Q2,(set9_other (by omega)).trans Q3,(set9_other (by omega)).trans Q4,(set9_other (by omega)).trans Q5,(set9_other (by omega)).trans Q6⟩ (fun _=>?_)
   clear hK K
   try simp only [Act.put,List.setIfInBounds_toArray,List.set_cons_zero,List.set_cons_succ,List.getElem_toArray,List.getElem_cons_zero,List.getElem_cons_succ]
   refine wpAnyH_done (by kernel_rfl) ?_ _
   go_wp2
   refine bodyPost_ret (v:=.agg #[.int .i64 0,.int .i64 C,.int .i64 0,.int .i64 a,.int .i64 b,.int .i64 c,.int .i64 d,.slice a7 r.sn.length k7,.slice g7 r.lg.length j7]) (by simp [results,Tryz.results27,go_sem,c0,c1,c2,c3,c4,c5,c6,c7,c8]) rfl ⟨_,_,rfl,HFn.out.1,HFn.out.2⟩
 ·skip
  obtain ⟨e1,e2,e3⟩:=dy4 (r:=r) h
  have HD:=hide (fun (w':World) (hb:Below w.heap.size w w')=>specInstallRaft r o.vt o.si (hy.later hb) (hz.later hb) hcp (hu.later hb))
  rw [e1,e2,e3]
  clear e1 e2 e3
  obtain ⟨C,hC⟩: ∃C,inC r o.vt o.si o.sn=C:=⟨_,rfl⟩
  obtain ⟨N,hN⟩: ∃N,inR r o.vt o.si o.sn=N:=⟨_,rfl⟩
  rw [hC,hN] at HD
  rw [hC,hN]
  clear hC hN hy hz hu hv hcp hcv h0 h1
  by_cases hC0:C=0
  ·subst hC0
   simp only [if_true]
   generalize r.sn.length=l at*
   generalize r.lg.length=m at*
   generalize o.sn.length=l2 at*
   generalize o.lg.length=m2 at*
   generalize r.tm=a at*
   generalize r.vt=b at*
   generalize r.si=c at*
   generalize r.st=d at*
   generalize o.tm=a2 at*
   generalize o.vt=b2 at*
   generalize o.si=c2 at*
   generalize o.st=d2 at*
   subst h
   have BA0:=below_on (below_alloc w (.cells #[.int .i64 a,.int .i64 b,.int .i64 c,.int .i64 d,.slice ay l cy,.slice az m cz] 27)) (below_alloc _ (.cells #[.int .i64 0,.int .i64 0,.int .i64 0,.int .i64 0,.int .i64 0,.int .i64 0,.int .i64 0,.slice none 0 0,.slice none 0 0] 33))
   have VR0:=(Var6_new w (.int .i64 a) (.int .i64 b) (.int .i64 c) (.int .i64 d) (.slice ay l cy) (.slice az m cz) 27).later (below_alloc _ (.cells #[.int .i64 0,.int .i64 0,.int .i64 0,.int .i64 0,.int .i64 0,.int .i64 0,.int .i64 0,.slice none 0 0,.slice none 0 0] 33))
   have RA0:=Res9.new (below_alloc w (.cells #[.int .i64 a,.int .i64 b,.int .i64 c,.int .i64 d,.slice ay l cy,.slice az m cz] 27)) 33
   rw [World.size_alloc] at RA0
   obtain ⟨W2,hW2⟩: ∃x,((w.alloc (.cells #[.int .i64 a,.int .i64 b,.int .i64 c,.int .i64 d,.slice ay l cy,.slice az m cz] 27)).alloc (.cells #[.int .i64 0,.int .i64 0,.int .i64 0,.int .i64 0,.int .i64 0,.int .i64 0,.int .i64 0,.slice none 0 0,.slice none 0 0] 33))=x:=⟨_,rfl⟩
   have hs2:W2.heap.size=w.heap.size+2:=by rw [← hW2];simp
   rw [hW2] at BA0 VR0 RA0
   have BA2:=hide BA0
   have VA2:=hide VR0
   have RA2:=hide RA0
   clear BA0 VR0 RA0
   go_enter Tryz.func27,Tryz.ntmps27
   go_upto_region 1 with fail
   (try rw [hW2])
   clear hW2
   go_upto_region 2 with fail
   have hbd:=below_alloc W2 (.cells #[.int .i64 0,.int .i64 0,.int .i64 0,.int .i64 0,.int .i64 0,.slice none 0 0,.slice none 0 0] 79)
   have BA:=hide (below_on BA2.out hbd)
   have VA:=hide (VA2.out.later hbd)
   have RA:=hide (RA2.out.later hbd)
   have XA0:=Var7_new W2 (.int .i64 0) (.int .i64 0) (.int .i64 0) (.int .i64 0) (.int .i64 0) (.slice none 0 0) (.slice none 0 0) 79
   rw [hs2] at XA0
   have XA:=hide XA0
   have XF0: ∀q,(W2.alloc (.cells #[.int .i64 0,.int .i64 0,.int .i64 0,.int .i64 0,.int .i64 0,.slice none 0 0,.slice none 0 0] 79)).frozen? ⟨w.heap.size+2,q,none⟩=false:=fun q=>by rw [← hs2];simp [go_sem]
   have XF:=hide XF0
   obtain ⟨W3,hW3⟩: ∃x,W2.alloc (.cells #[.int .i64 0,.int .i64 0,.int .i64 0,.int .i64 0,.int .i64 0,.slice none 0 0,.slice none 0 0] 79)=x:=⟨_,rfl⟩
   have hs3:W3.heap.size=w.heap.size+3:=by rw [← hW3];simp [hs2]
   rw [hW3] at BA VA RA XA XF
   (try rw [hW3])
   (try simp only [hs2])
   have OA:=hide (HO6.out.later BA.out)
   clear hbd XA0 XF0 hW3 BA2 VA2 RA2 hs2 HO6
   obtain ⟨v0,v1,v2,v3,v4,v5⟩:=VA.out
   obtain ⟨p0,p1,p2,p3,p4,p5⟩:=OA.out
   go_upto_region 12 with fail
   refine wp_region_held_drew (S:=fun w'=>w'.cell? ⟨w.heap.size,0,none⟩=some (.int .i64 a)∧w'.cell? ⟨w.heap.size,1,none⟩=some (.int .i64 b)∧w'.cell? ⟨w.heap.size,2,none⟩=some (.int .i64 c)∧w'.cell? ⟨w.heap.size,3,none⟩=some (.int .i64 d)∧w'.cell? ⟨w.heap.size,4,none⟩=some (.slice ay l cy)∧w'.cell? ⟨w.heap.size,5,none⟩=some (.slice az m cz)∧w'.cell? ⟨bk,ob,none⟩=some (.int .i64 4)∧w'.cell? ⟨bk,ob+1,none⟩=some (.int .i64 b2)∧w'.cell? ⟨bk,ob+2,none⟩=some (.int .i64 c2)∧w'.cell? ⟨bk,ob+3,none⟩=some (.int .i64 d2)∧w'.cell? ⟨bk,ob+4,none⟩=some (.slice au l2 cu)∧w'.cell? ⟨bk,ob+5,none⟩=some (.slice av m2 cv)) (by kernel_rfl) ⟨v0,v1,v2,v3,v4,v5,p0,p1,p2,p3,p4,p5⟩ (fun hHeld0=>?_)
   refine forgetH (fun wx=>(wx.cell? ⟨w.heap.size,0,none⟩=some (.int .i64 a)∧wx.cell? ⟨w.heap.size,1,none⟩=some (.int .i64 b)∧wx.cell? ⟨w.heap.size,2,none⟩=some (.int .i64 c)∧wx.cell? ⟨w.heap.size,3,none⟩=some (.int .i64 d)∧wx.cell? ⟨w.heap.size,4,none⟩=some (.slice ay l cy)∧wx.cell? ⟨w.heap.size,5,none⟩=some (.slice az m cz)∧wx.cell? ⟨bk,ob,none⟩=some (.int .i64 4)∧wx.cell? ⟨bk,ob+1,none⟩=some (.int .i64 b2)∧wx.cell? ⟨bk,ob+2,none⟩=some (.int .i64 c2)∧wx.cell? ⟨bk,ob+3,none⟩=some (.int .i64 d2)∧wx.cell? ⟨bk,ob+4,none⟩=some (.slice au l2 cu)∧wx.cell? ⟨bk,ob+5,none⟩=some (.slice av m2 cv))∧Below W3.heap.size W3 wx) ⟨hHeld0,below_drewN W3 1⟩ ?_
   clear hHeld0 v0 v1 v2 v3 v4 v5 p0 p1 p2 p3 p4 p5
   rintro X0 ⟨hHeld,hbx⟩
   obtain ⟨P0,P1,P2,P3,P4,P5,P6,P7,P8,P9,P10,P11⟩:=id hHeld
   have hx0:=hbx.size
   have BX:=hide (below_on BA.out hbx)
   have RX:=hide (RA.out.later hbx)
   have XX:=hide (XA.out.later hbx)
   have XFX:Hid (∀q,X0.frozen? ⟨w.heap.size+2,q,none⟩=false):=fun q=>((bcell hbx).2 _ _ XA.out.lt).trans (XF.out q)
   clear hbx BA VA RA XA OA XF
   refine wpAnyH_take (i:=0) (v:=?vt75) rfl (by kernel_rfl) (by kernel_rfl) (by kernel_rfl) (fun _ _ _ h=>h) (Or.inl ⟨by rfl,?ht75⟩) hHeld ?rt75
   case ht75=>intro w9 hSw;(try dsimp only at hSw);first | (go_simp;done) | (go_simp;with_reducible rfl)
   try simp only [Act.put,List.setIfInBounds_toArray,List.set_cons_zero,List.set_cons_succ,List.getElem_toArray,List.getElem_cons_zero,List.getElem_cons_succ]
   refine wpAnyH_take (i:=1) (v:=?vt76) rfl (by kernel_rfl) (by kernel_rfl) (by kernel_rfl) (fun _ _ _ h=>h) (Or.inl ⟨by rfl,?ht76⟩) hHeld ?rt76
   case ht76=>intro w9 hSw;(try dsimp only at hSw);first | (go_simp;done) | (go_simp;with_reducible rfl)
   try simp only [Act.put,List.setIfInBounds_toArray,List.set_cons_zero,List.set_cons_succ,List.getElem_toArray,List.getElem_cons_zero,List.getElem_cons_succ]
   refine wpAnyH_take (i:=2) (v:=?vt77) rfl (by kernel_rfl) (by kernel_rfl) (by kernel_rfl) (fun _ _ _ h=>h) (Or.inl ⟨by rfl,?ht77⟩) hHeld ?rt77
   case ht77=>intro w9 hSw;(try dsimp only at hSw);first | (go_simp;done) | (go_simp;with_reducible rfl)
   try simp only [Act.put,List.setIfInBounds_toArray,List.set_cons_zero,List.set_cons_succ,List.getElem_toArray,List.getElem_cons_zero,List.getElem_cons_succ]
   refine wpAnyH_take (i:=3) (v:=?vt78) rfl (by kernel_rfl) (by kernel_rfl) (by kernel_rfl) (fun _ _ _ h=>h) (Or.inl ⟨by rfl,?ht78⟩) hHeld ?rt78
   case ht78=>intro w9 hSw;(try dsimp only at hSw);first | (go_simp;done) | (go_simp;with_reducible rfl)
   try simp only [Act.put,List.setIfInBounds_toArray,List.set_cons_zero,List.set_cons_succ,List.getElem_toArray,List.getElem_cons_zero,List.getElem_cons_succ]
   refine wpAnyH_take (i:=4) (v:=?vt79) rfl (by kernel_rfl) (by kernel_rfl) (by kernel_rfl) (fun _ _ _ h=>h) (Or.inl ⟨by rfl,?ht79⟩) hHeld ?rt79
   case ht79=>intro w9 hSw;(try dsimp only at hSw);first | (go_simp;done) | (go_simp;with_reducible rfl)
   try simp only [Act.put,List.setIfInBounds_toArray,List.set_cons_zero,List.set_cons_succ,List.getElem_toArray,List.getElem_cons_zero,List.getElem_cons_succ]
   refine wpAnyH_take (i:=5) (v:=?vt80) rfl (by kernel_rfl) (by kernel_rfl) (by kernel_rfl) (fun _ _ _ h=>h) (Or.inl ⟨by rfl,?ht80⟩) hHeld ?rt80
   case ht80=>intro w9 hSw;(try dsimp only at hSw);first | (go_simp;done) | (go_simp;with_reducible rfl)
   try simp only [Act.put,List.setIfInBounds_toArray,List.set_cons_zero,List.set_cons_succ,List.getElem_toArray,List.getElem_cons_zero,List.getElem_cons_succ]
   refine wpAnyH_take (i:=6) (v:=?vt81) rfl (by kernel_rfl) (by kernel_rfl) (by kernel_rfl) (fun _ _ _ h=>h) (Or.inl ⟨by rfl,?ht81⟩) hHeld ?rt81
   case ht81=>intro w9 hSw;(try dsimp only at hSw);first | (go_simp;done) | (go_simp;with_reducible rfl)
   try simp only [Act.put,List.setIfInBounds_toArray,List.set_cons_zero,List.set_cons_succ,List.getElem_toArray,List.getElem_cons_zero,List.getElem_cons_succ]
   refine wpAnyH_take (i:=7) (v:=?vt82) rfl (by kernel_rfl) (by kernel_rfl) (by kernel_rfl) (fun _ _ _ h=>h) (Or.inl ⟨by rfl,?ht82⟩) hHeld ?rt82
   case ht82=>intro w9 hSw;(try dsimp only at hSw);first | (go_simp;done) | (go_simp;with_reducible rfl)
   try simp only [Act.put,List.setIfInBounds_toArray,List.set_cons_zero,List.set_cons_succ,List.getElem_toArray,List.getElem_cons_zero,List.getElem_cons_succ]
   refine wpAnyH_take (i:=8) (v:=?vt83) rfl (by kernel_rfl) (by kernel_rfl) (by kernel_rfl) (fun _ _ _ h=>h) (Or.inl ⟨by rfl,?ht83⟩) hHeld ?rt83
   case ht83=>intro w9 hSw;(try dsimp only at hSw);first | (go_simp;done) | (go_simp;with_reducible rfl)
   try simp only [Act.put,List.setIfInBounds_toArray,List.set_cons_zero,List.set_cons_succ,List.getElem_toArray,List.getElem_cons_zero,List.getElem_cons_succ]
   refine wpAnyH_take (i:=9) (v:=?vt84) rfl (by kernel_rfl) (by kernel_rfl) (by kernel_rfl) (fun _ _ _ h=>h) (Or.inl ⟨by rfl,?ht84⟩) hHeld ?rt84
   case ht84=>intro w9 hSw;(try dsimp only at hSw);first | (go_simp;done) | (go_simp;with_reducible rfl)
   try simp only [Act.put,List.setIfInBounds_toArray,List.set_cons_zero,List.set_cons_succ,List.getElem_toArray,List.getElem_cons_zero,List.getElem_cons_succ]
   refine wpAnyH_take (i:=10) (v:=?vt85) rfl (by kernel_rfl) (by kernel_rfl) (by kernel_rfl) (fun _ _ _ h=>h) (Or.inl ⟨by rfl,?ht85⟩) hHeld ?rt85
   case ht85=>intro w9 hSw;(try dsimp only at hSw);first | (go_simp;done) | (go_simp;with_reducible rfl)
   try simp only [Act.put,List.setIfInBounds_toArray,List.set_cons_zero,List.set_cons_succ,List.getElem_toArray,List.getElem_cons_zero,List.getElem_cons_succ]
   refine wpAnyH_take (i:=11) (v:=?vt86) rfl (by kernel_rfl) (by kernel_rfl) (by kernel_rfl) (fun _ _ _ h=>h) (Or.inl ⟨by rfl,?ht86⟩) hHeld ?rt86
   case ht86=>intro w9 hSw;(try dsimp only at hSw);first | (go_simp;done) | (go_simp;with_reducible rfl)
   try simp only [Act.put,List.setIfInBounds_toArray,List.set_cons_zero,List.set_cons_succ,List.getElem_toArray,List.getElem_cons_zero,List.getElem_cons_succ]
   refine wpAnyH_take (i:=12) (v:=?vt87) rfl (by kernel_rfl) (by kernel_rfl) (by kernel_rfl) (fun _ _ _ h=>h) (Or.inl ⟨by rfl,?ht87⟩) hHeld ?rt87
   case ht87=>intro w9 hSw;(try dsimp only at hSw);first | (go_simp;done) | (go_simp;with_reducible rfl)
   try simp only [Act.put,List.setIfInBounds_toArray,List.set_cons_zero,List.set_cons_succ,List.getElem_toArray,List.getElem_cons_zero,List.getElem_cons_succ]
   refine wpAnyH_ready (rs:=[13]) (by kernel_rfl) (by simp) (AllReadyH.cons rfl (fun K hK=>?_) (AllReadyH.nil))
   go_simp
   go_at_call 48
   refine (HD.out _ BX.out).mono ?_
   rintro e X1 ⟨y1,z1,rfl,hb,ho⟩
   obtain ⟨a1,k1,g1,j1,rfl,rfl⟩:=ho.shape
   have Q0:=cell_later hb P0
   have Q1:=cell_later hb P1
   have Q2:=cell_later hb P2
   have Q3:=cell_later hb P3
   have Q4:=cell_later hb P4
   have Q5:=cell_later hb P5
   have Q6:=cell_later hb P6
   have Q7:=cell_later hb P7
   have Q8:=cell_later hb P8
   have Q9:=cell_later hb P9
   have Q10:=cell_later hb P10
   have Q11:=cell_later hb P11
   refine hK.out _ _ ⟨Q0,Q1,Q2,Q3,Q4,Q5,Q6,Q7,Q8,Q9,Q10,Q11⟩ (fun _=>?_)
   clear hK K HD
   try simp only [Act.put,List.setIfInBounds_toArray,List.set_cons_zero,List.set_cons_succ,List.getElem_toArray,List.getElem_cons_zero,List.getElem_cons_succ]
   have BY:=hide (below_on BX.out hb)
   have RY:=hide (RX.out.later hb)
   have XY:=hide (XX.out.later hb)
   have XFY:Hid (∀q,X1.frozen? ⟨w.heap.size+2,q,none⟩=false):=fun q=>((bcell hb).2 _ _ XX.out.lt).trans (XFX.out q)
   have IY:=hide ho
   have hx1:=hb.size
   clear hb ho hHeld BX RX XX XFX P0 P1 P2 P3 P4 P5 P6 P7 P8 P9 P10 P11
   obtain ⟨x0,x1,x2,x3,x4,x5,x6⟩:=XY.out
   have e0:=XFY.out 0
   have e1:=XFY.out 1
   have e2:=XFY.out 2
   have e3:=XFY.out 3
   have e4:=XFY.out 4
   have e5:=XFY.out 5
   have e6:=XFY.out 6
   refine wpAnyH_ready (rs:=[14]) (by kernel_rfl) (by simp) (AllReadyH.cons rfl (fun K hK=>?_) (AllReadyH.nil))
   go_simp
   have hn0:w.heap.size≠w.heap.size+2:=by omega
   have hn1:bk≠w.heap.size+2:=by omega
   refine hK.out _ _ ⟨(set7_otherD hn0).trans Q0,(set7_otherD hn0).trans Q1,(set7_otherD hn0).trans Q2,(set7_otherD hn0).trans Q3,(set7_otherD hn0).trans Q4,(set7_otherD hn0).trans Q5,(set7_otherD hn1).trans Q6,(set7_otherD hn1).trans Q7,(set7_otherD hn1).trans Q8,(set7_otherD hn1).trans Q9,(set7_otherD hn1).trans Q10,(set7_otherD hn1).trans Q11⟩ (fun _=>?_)
   clear hK K
   try simp only [Act.put,List.setIfInBounds_toArray,List.set_cons_zero,List.set_cons_succ,List.getElem_toArray,List.getElem_cons_zero,List.getElem_cons_succ]
   refine wpAnyH_done (by kernel_rfl) ?_ _
   refine forgetX (fun W5=>Var7 W5 (w.heap.size+2) (.int .i64 0) (.int .i64 N.tm) (.int .i64 N.vt) (.int .i64 N.si) (.int .i64 N.st) (.slice a1 N.sn.length k1) (.slice g1 N.lg.length j1)∧Var6 W5 w.heap.size (.int .i64 a) (.int .i64 b) (.int .i64 c) (.int .i64 d) (.slice ay l cy) (.slice az m cz)∧Res9 w W5 (w.heap.size+1)∧(∃lo,w.heap.size+2<lo∧IvR lo W5.heap.size W5 (.slice a1 N.sn.length k1) (.slice g1 N.lg.length j1) N.sn N.lg)) ?sc4True ?_
   case sc4True=>
    have hw5:Wr (fun x=>x=w.heap.size+2) X1 (((((((X1.setCell ⟨w.heap.size+2,0,none⟩ (.int .i64 0)).setCell ⟨w.heap.size+2,1,none⟩ (.int .i64 N.tm)).setCell ⟨w.heap.size+2,2,none⟩ (.int .i64 N.vt)).setCell ⟨w.heap.size+2,3,none⟩ (.int .i64 N.si)).setCell ⟨w.heap.size+2,4,none⟩ (.int .i64 N.st)).setCell ⟨w.heap.size+2,5,none⟩ (.slice a1 N.sn.length k1)).setCell ⟨w.heap.size+2,6,none⟩ (.slice g1 N.lg.length j1)):=(Wr.setCell (p:=⟨w.heap.size+2,6,none⟩) (Wr.setCell (p:=⟨w.heap.size+2,5,none⟩) (Wr.setCell (p:=⟨w.heap.size+2,4,none⟩) (Wr.setCell (p:=⟨w.heap.size+2,3,none⟩) (Wr.setCell (p:=⟨w.heap.size+2,2,none⟩) (Wr.setCell (p:=⟨w.heap.size+2,1,none⟩) (Wr.setCell (p:=⟨w.heap.size+2,0,none⟩) (Wr.refl (fun x=>x=w.heap.size+2) _) rfl (.int .i64 0)) rfl (.int .i64 N.tm)) rfl (.int .i64 N.vt)) rfl (.int .i64 N.si)) rfl (.int .i64 N.st)) rfl (.slice a1 N.sn.length k1)) rfl (.slice g1 N.lg.length j1))
    exact ⟨⟨by simp [go_sem,x0],by simp [go_sem,x1],by simp [go_sem,x2],by simp [go_sem,x3],by simp [go_sem,x4],by simp [go_sem,x5],by simp [go_sem,x6]⟩,⟨(set7_otherD hn0).trans Q0,(set7_otherD hn0).trans Q1,(set7_otherD hn0).trans Q2,(set7_otherD hn0).trans Q3,(set7_otherD hn0).trans Q4,(set7_otherD hn0).trans Q5⟩,RY.out.wr hw5 (by omega) (fun b hb=>by omega),X0.heap.size,by omega,(IY.out.wr hw5 (fun b h1 h2 e=>by omega)).up (Nat.le_refl _) hw5.size⟩
   clear Q0 Q1 Q2 Q3 Q4 Q5 Q6 Q7 Q8 Q9 Q10 Q11 x0 x1 x2 x3 x4 x5 x6 e0 e1 e2 e3 e4 e5 e6 hn0 hn1 BY RY XY XFY IY
   rintro W5 ⟨N7,V6,R9,lo,hlo,I5⟩
   have HN7:=hide N7
   have HV6:=hide V6
   have HR9:=hide R9
   have HI5:=hide I5
   obtain ⟨n0,n1,n2,n3,n4,n5,n6⟩:=N7
   clear V6 R9 I5
   have HFn:=hide (ret_op (w:=w) (r:=w.heap.size+1) (x0:=.int .i64 0) (x1:=.int .i64 0) (x2:=.int .i64 0) (x3:=.int .i64 N.tm) (x4:=.int .i64 N.vt) (x5:=.int .i64 N.si) (x6:=.int .i64 N.st) HR9.out.below HR9.out.ge HI5.out (by omega))
   obtain ⟨_,⟨c0,c1,c2,c3,c4,c5,c6,c7,c8⟩,F,_⟩:=HR9.out
   have f0:=F 0
   have f1:=F 1
   have f2:=F 2
   have f3:=F 3
   have f4:=F 4
   have f5:=F 5
   have f6:=F 6
   have f7:=F 7
   have f8:=F 8
   clear F
   go_wp2
   refine bodyPost_ret (v:=.agg #[.int .i64 0,.int .i64 0,.int .i64 0,.int .i64 N.tm,.int .i64 N.vt,.int .i64 N.si,.int .i64 N.st,.slice a1 N.sn.length k1,.slice g1 N.lg.length j1]) (by simp [results,Tryz.results27,go_sem,c0,c1,c2,c3,c4,c5,c6,c7,c8]) rfl ⟨_,_,rfl,HFn.out.1,HFn.out.2⟩
  ·simp only [if_neg hC0]
   have hCb:(C==0)=false:=by simpa using hC0
   have hCc:(C !=0)=true:=by simp [hC0]
   generalize r.sn.length=l at*
   generalize r.lg.length=m at*
   generalize o.sn.length=l2 at*
   generalize o.lg.length=m2 at*
   generalize r.tm=a at*
   generalize r.vt=b at*
   generalize r.si=c at*
   generalize r.st=d at*
   generalize o.tm=a2 at*
   generalize o.vt=b2 at*
   generalize o.si=c2 at*
   generalize o.st=d2 at*
   subst h
   have BA0:=below_on (below_alloc w (.cells #[.int .i64 a,.int .i64 b,.int .i64 c,.int .i64 d,.slice ay l cy,.slice az m cz] 27)) (below_alloc _ (.cells #[.int .i64 0,.int .i64 0,.int .i64 0,.int .i64 0,.int .i64 0,.int .i64 0,.int .i64 0,.slice none 0 0,.slice none 0 0] 33))
   have VR0:=(Var6_new w (.int .i64 a) (.int .i64 b) (.int .i64 c) (.int .i64 d) (.slice ay l cy) (.slice az m cz) 27).later (below_alloc _ (.cells #[.int .i64 0,.int .i64 0,.int .i64 0,.int .i64 0,.int .i64 0,.int .i64 0,.int .i64 0,.slice none 0 0,.slice none 0 0] 33))
   have RA0:=Res9.new (below_alloc w (.cells #[.int .i64 a,.int .i64 b,.int .i64 c,.int .i64 d,.slice ay l cy,.slice az m cz] 27)) 33
   rw [World.size_alloc] at RA0
   obtain ⟨W2,hW2⟩: ∃x,((w.alloc (.cells #[.int .i64 a,.int .i64 b,.int .i64 c,.int .i64 d,.slice ay l cy,.slice az m cz] 27)).alloc (.cells #[.int .i64 0,.int .i64 0,.int .i64 0,.int .i64 0,.int .i64 0,.int .i64 0,.int .i64 0,.slice none 0 0,.slice none 0 0] 33))=x:=⟨_,rfl⟩
   have hs2:W2.heap.size=w.heap.size+2:=by rw [← hW2];simp
   rw [hW2] at BA0 VR0 RA0
   have BA2:=hide BA0
   have VA2:=hide VR0
   have RA2:=hide RA0
   clear BA0 VR0 RA0
   go_enter Tryz.func27,Tryz.ntmps27
   go_upto_region 1 with fail
   (try rw [hW2])
   clear hW2
   go_upto_region 2 with fail
   have hbd:=below_alloc W2 (.cells #[.int .i64 0,.int .i64 0,.int .i64 0,.int .i64 0,.int .i64 0,.slice none 0 0,.slice none 0 0] 79)
   have BA:=hide (below_on BA2.out hbd)
   have VA:=hide (VA2.out.later hbd)
   have RA:=hide (RA2.out.later hbd)
   have XA0:=Var7_new W2 (.int .i64 0) (.int .i64 0) (.int .i64 0) (.int .i64 0) (.int .i64 0) (.slice none 0 0) (.slice none 0 0) 79
   rw [hs2] at XA0
   have XA:=hide XA0
   have XF0: ∀q,(W2.alloc (.cells #[.int .i64 0,.int .i64 0,.int .i64 0,.int .i64 0,.int .i64 0,.slice none 0 0,.slice none 0 0] 79)).frozen? ⟨w.heap.size+2,q,none⟩=false:=fun q=>by rw [← hs2];simp [go_sem]
   have XF:=hide XF0
   obtain ⟨W3,hW3⟩: ∃x,W2.alloc (.cells #[.int .i64 0,.int .i64 0,.int .i64 0,.int .i64 0,.int .i64 0,.slice none 0 0,.slice none 0 0] 79)=x:=⟨_,rfl⟩
   have hs3:W3.heap.size=w.heap.size+3:=by rw [← hW3];simp [hs2]
   rw [hW3] at BA VA RA XA XF
   (try rw [hW3])
   (try simp only [hs2])
   have OA:=hide (HO6.out.later BA.out)
   clear hbd XA0 XF0 hW3 BA2 VA2 RA2 hs2 HO6
   obtain ⟨v0,v1,v2,v3,v4,v5⟩:=VA.out
   obtain ⟨p0,p1,p2,p3,p4,p5⟩:=OA.out
   go_upto_region 12 with fail
   refine wp_region_held_drew (S:=fun w'=>w'.cell? ⟨w.heap.size,0,none⟩=some (.int .i64 a)∧w'.cell? ⟨w.heap.size,1,none⟩=some (.int .i64 b)∧w'.cell? ⟨w.heap.size,2,none⟩=some (.int .i64 c)∧w'.cell? ⟨w.heap.size,3,none⟩=some (.int .i64 d)∧w'.cell? ⟨w.heap.size,4,none⟩=some (.slice ay l cy)∧w'.cell? ⟨w.heap.size,5,none⟩=some (.slice az m cz)∧w'.cell? ⟨bk,ob,none⟩=some (.int .i64 4)∧w'.cell? ⟨bk,ob+1,none⟩=some (.int .i64 b2)∧w'.cell? ⟨bk,ob+2,none⟩=some (.int .i64 c2)∧w'.cell? ⟨bk,ob+3,none⟩=some (.int .i64 d2)∧w'.cell? ⟨bk,ob+4,none⟩=some (.slice au l2 cu)∧w'.cell? ⟨bk,ob+5,none⟩=some (.slice av m2 cv)) (by kernel_rfl) ⟨v0,v1,v2,v3,v4,v5,p0,p1,p2,p3,p4,p5⟩ (fun hHeld0=>?_)
   refine forgetH (fun wx=>(wx.cell? ⟨w.heap.size,0,none⟩=some (.int .i64 a)∧wx.cell? ⟨w.heap.size,1,none⟩=some (.int .i64 b)∧wx.cell? ⟨w.heap.size,2,none⟩=some (.int .i64 c)∧wx.cell? ⟨w.heap.size,3,none⟩=some (.int .i64 d)∧wx.cell? ⟨w.heap.size,4,none⟩=some (.slice ay l cy)∧wx.cell? ⟨w.heap.size,5,none⟩=some (.slice az m cz)∧wx.cell? ⟨bk,ob,none⟩=some (.int .i64 4)∧wx.cell? ⟨bk,ob+1,none⟩=some (.int .i64 b2)∧wx.cell? ⟨bk,ob+2,none⟩=some (.int .i64 c2)∧wx.cell? ⟨bk,ob+3,none⟩=some (.int .i64 d2)∧wx.cell? ⟨bk,ob+4,none⟩=some (.slice au l2 cu)∧wx.cell? ⟨bk,ob+5,none⟩=some (.slice av m2 cv))∧Below W3.heap.size W3 wx) ⟨hHeld0,below_drewN W3 1⟩ ?_
   clear hHeld0 v0 v1 v2 v3 v4 v5 p0 p1 p2 p3 p4 p5
   rintro X0 ⟨hHeld,hbx⟩
   obtain ⟨P0,P1,P2,P3,P4,P5,P6,P7,P8,P9,P10,P11⟩:=id hHeld
   have hx0:=hbx.size
   have BX:=hide (below_on BA.out hbx)
   have RX:=hide (RA.out.later hbx)
   have XX:=hide (XA.out.later hbx)
   have XFX:Hid (∀q,X0.frozen? ⟨w.heap.size+2,q,none⟩=false):=fun q=>((bcell hbx).2 _ _ XA.out.lt).trans (XF.out q)
   clear hbx BA VA RA XA OA XF
   refine wpAnyH_take (i:=0) (v:=?vt88) rfl (by kernel_rfl) (by kernel_rfl) (by kernel_rfl) (fun _ _ _ h=>h) (Or.inl ⟨by rfl,?ht88⟩) hHeld ?rt88
   case ht88=>intro w9 hSw;(try dsimp only at hSw);first | (go_simp;done) | (go_simp;with_reducible rfl)
   try simp only [Act.put,List.setIfInBounds_toArray,List.set_cons_zero,List.set_cons_succ,List.getElem_toArray,List.getElem_cons_zero,List.getElem_cons_succ]
   refine wpAnyH_take (i:=1) (v:=?vt89) rfl (by kernel_rfl) (by kernel_rfl) (by kernel_rfl) (fun _ _ _ h=>h) (Or.inl ⟨by rfl,?ht89⟩) hHeld ?rt89
   case ht89=>intro w9 hSw;(try dsimp only at hSw);first | (go_simp;done) | (go_simp;with_reducible rfl)
   try simp only [Act.put,List.setIfInBounds_toArray,List.set_cons_zero,List.set_cons_succ,List.getElem_toArray,List.getElem_cons_zero,List.getElem_cons_succ]
   refine wpAnyH_take (i:=2) (v:=?vt90) rfl (by kernel_rfl) (by kernel_rfl) (by kernel_rfl) (fun _ _ _ h=>h) (Or.inl ⟨by rfl,?ht90⟩) hHeld ?rt90
   case ht90=>intro w9 hSw;(try dsimp only at hSw);first | (go_simp;done) | (go_simp;with_reducible rfl)
   try simp only [Act.put,List.setIfInBounds_toArray,List.set_cons_zero,List.set_cons_succ,List.getElem_toArray,List.getElem_cons_zero,List.getElem_cons_succ]
   refine wpAnyH_take (i:=3) (v:=?vt91) rfl (by kernel_rfl) (by kernel_rfl) (by kernel_rfl) (fun _ _ _ h=>h) (Or.inl ⟨by rfl,?ht91⟩) hHeld ?rt91
   case ht91=>intro w9 hSw;(try dsimp only at hSw);first | (go_simp;done) | (go_simp;with_reducible rfl)
   try simp only [Act.put,List.setIfInBounds_toArray,List.set_cons_zero,List.set_cons_succ,List.getElem_toArray,List.getElem_cons_zero,List.getElem_cons_succ]
   refine wpAnyH_take (i:=4) (v:=?vt92) rfl (by kernel_rfl) (by kernel_rfl) (by kernel_rfl) (fun _ _ _ h=>h) (Or.inl ⟨by rfl,?ht92⟩) hHeld ?rt92
   case ht92=>intro w9 hSw;(try dsimp only at hSw);first | (go_simp;done) | (go_simp;with_reducible rfl)
   try simp only [Act.put,List.setIfInBounds_toArray,List.set_cons_zero,List.set_cons_succ,List.getElem_toArray,List.getElem_cons_zero,List.getElem_cons_succ]
   refine wpAnyH_take (i:=5) (v:=?vt93) rfl (by kernel_rfl) (by kernel_rfl) (by kernel_rfl) (fun _ _ _ h=>h) (Or.inl ⟨by rfl,?ht93⟩) hHeld ?rt93
   case ht93=>intro w9 hSw;(try dsimp only at hSw);first | (go_simp;done) | (go_simp;with_reducible rfl)
   try simp only [Act.put,List.setIfInBounds_toArray,List.set_cons_zero,List.set_cons_succ,List.getElem_toArray,List.getElem_cons_zero,List.getElem_cons_succ]
   refine wpAnyH_take (i:=6) (v:=?vt94) rfl (by kernel_rfl) (by kernel_rfl) (by kernel_rfl) (fun _ _ _ h=>h) (Or.inl ⟨by rfl,?ht94⟩) hHeld ?rt94
   case ht94=>intro w9 hSw;(try dsimp only at hSw);first | (go_simp;done) | (go_simp;with_reducible rfl)
   try simp only [Act.put,List.setIfInBounds_toArray,List.set_cons_zero,List.set_cons_succ,List.getElem_toArray,List.getElem_cons_zero,List.getElem_cons_succ]
   refine wpAnyH_take (i:=7) (v:=?vt95) rfl (by kernel_rfl) (by kernel_rfl) (by kernel_rfl) (fun _ _ _ h=>h) (Or.inl ⟨by rfl,?ht95⟩) hHeld ?rt95
   case ht95=>intro w9 hSw;(try dsimp only at hSw);first | (go_simp;done) | (go_simp;with_reducible rfl)
   try simp only [Act.put,List.setIfInBounds_toArray,List.set_cons_zero,List.set_cons_succ,List.getElem_toArray,List.getElem_cons_zero,List.getElem_cons_succ]
   refine wpAnyH_take (i:=8) (v:=?vt96) rfl (by kernel_rfl) (by kernel_rfl) (by kernel_rfl) (fun _ _ _ h=>h) (Or.inl ⟨by rfl,?ht96⟩) hHeld ?rt96
   case ht96=>intro w9 hSw;(try dsimp only at hSw);first | (go_simp;done) | (go_simp;with_reducible rfl)
   try simp only [Act.put,List.setIfInBounds_toArray,List.set_cons_zero,List.set_cons_succ,List.getElem_toArray,List.getElem_cons_zero,List.getElem_cons_succ]
   refine wpAnyH_take (i:=9) (v:=?vt97) rfl (by kernel_rfl) (by kernel_rfl) (by kernel_rfl) (fun _ _ _ h=>h) (Or.inl ⟨by rfl,?ht97⟩) hHeld ?rt97
   case ht97=>intro w9 hSw;(try dsimp only at hSw);first | (go_simp;done) | (go_simp;with_reducible rfl)
   try simp only [Act.put,List.setIfInBounds_toArray,List.set_cons_zero,List.set_cons_succ,List.getElem_toArray,List.getElem_cons_zero,List.getElem_cons_succ]
   refine wpAnyH_take (i:=10) (v:=?vt98) rfl (by kernel_rfl) (by kernel_rfl) (by kernel_rfl) (fun _ _ _ h=>h) (Or.inl ⟨by rfl,?ht98⟩) hHeld ?rt98
   case ht98=>intro w9 hSw;(try dsimp only at hSw);first | (go_simp;done) | (go_simp;with_reducible rfl)
   try simp only [Act.put,List.setIfInBounds_toArray,List.set_cons_zero,List.set_cons_succ,List.getElem_toArray,List.getElem_cons_zero,List.getElem_cons_succ]
   refine wpAnyH_take (i:=11) (v:=?vt99) rfl (by kernel_rfl) (by kernel_rfl) (by kernel_rfl) (fun _ _ _ h=>h) (Or.inl ⟨by rfl,?ht99⟩) hHeld ?rt99
   case ht99=>intro w9 hSw;(try dsimp only at hSw);first | (go_simp;done) | (go_simp;with_reducible rfl)
   try simp only [Act.put,List.setIfInBounds_toArray,List.set_cons_zero,List.set_cons_succ,List.getElem_toArray,List.getElem_cons_zero,List.getElem_cons_succ]
   refine wpAnyH_take (i:=12) (v:=?vt100) rfl (by kernel_rfl) (by kernel_rfl) (by kernel_rfl) (fun _ _ _ h=>h) (Or.inl ⟨by rfl,?ht100⟩) hHeld ?rt100
   case ht100=>intro w9 hSw;(try dsimp only at hSw);first | (go_simp;done) | (go_simp;with_reducible rfl)
   try simp only [Act.put,List.setIfInBounds_toArray,List.set_cons_zero,List.set_cons_succ,List.getElem_toArray,List.getElem_cons_zero,List.getElem_cons_succ]
   refine wpAnyH_ready (rs:=[13]) (by kernel_rfl) (by simp) (AllReadyH.cons rfl (fun K hK=>?_) (AllReadyH.nil))
   go_simp
   go_at_call 48
   refine (HD.out _ BX.out).mono ?_
   rintro e X1 ⟨y1,z1,rfl,hb,ho⟩
   obtain ⟨a1,k1,g1,j1,rfl,rfl⟩:=ho.shape
   have Q0:=cell_later hb P0
   have Q1:=cell_later hb P1
   have Q2:=cell_later hb P2
   have Q3:=cell_later hb P3
   have Q4:=cell_later hb P4
   have Q5:=cell_later hb P5
   have Q6:=cell_later hb P6
   have Q7:=cell_later hb P7
   have Q8:=cell_later hb P8
   have Q9:=cell_later hb P9
   have Q10:=cell_later hb P10
   have Q11:=cell_later hb P11
   refine hK.out _ _ ⟨Q0,Q1,Q2,Q3,Q4,Q5,Q6,Q7,Q8,Q9,Q10,Q11⟩ (fun _=>?_)
   clear hK K HD
   try simp only [Act.put,List.setIfInBounds_toArray,List.set_cons_zero,List.set_cons_succ,List.getElem_toArray,List.getElem_cons_zero,List.getElem_cons_succ]
   have BY:=hide (below_on BX.out hb)
   have RY:=hide (RX.out.later hb)
   have XY:=hide (XX.out.later hb)
   have XFY:Hid (∀q,X1.frozen? ⟨w.heap.size+2,q,none⟩=false):=fun q=>((bcell hb).2 _ _ XX.out.lt).trans (XFX.out q)
   have IY:=hide ho
   have hx1:=hb.size
   clear hb ho hHeld BX RX XX XFX P0 P1 P2 P3 P4 P5 P6 P7 P8 P9 P10 P11
   obtain ⟨x0,x1,x2,x3,x4,x5,x6⟩:=XY.out
   have e0:=XFY.out 0
   have e1:=XFY.out 1
   have e2:=XFY.out 2
   have e3:=XFY.out 3
   have e4:=XFY.out 4
   have e5:=XFY.out 5
   have e6:=XFY.out 6
   refine wpAnyH_ready (rs:=[14]) (by kernel_rfl) (by simp) (AllReadyH.cons rfl (fun K hK=>?_) (AllReadyH.nil))
   go_simp
   have hn0:w.heap.size≠w.heap.size+2:=by omega
   have hn1:bk≠w.heap.size+2:=by omega
   refine hK.out _ _ ⟨(set7_otherD hn0).trans Q0,(set7_otherD hn0).trans Q1,(set7_otherD hn0).trans Q2,(set7_otherD hn0).trans Q3,(set7_otherD hn0).trans Q4,(set7_otherD hn0).trans Q5,(set7_otherD hn1).trans Q6,(set7_otherD hn1).trans Q7,(set7_otherD hn1).trans Q8,(set7_otherD hn1).trans Q9,(set7_otherD hn1).trans Q10,(set7_otherD hn1).trans Q11⟩ (fun _=>?_)
   clear hK K
   try simp only [Act.put,List.setIfInBounds_toArray,List.set_cons_zero,List.set_cons_succ,List.getElem_toArray,List.getElem_cons_zero,List.getElem_cons_succ]
   refine wpAnyH_done (by kernel_rfl) ?_ _
   refine forgetX (fun W5=>Var7 W5 (w.heap.size+2) (.int .i64 C) (.int .i64 N.tm) (.int .i64 N.vt) (.int .i64 N.si) (.int .i64 N.st) (.slice a1 N.sn.length k1) (.slice g1 N.lg.length j1)∧Var6 W5 w.heap.size (.int .i64 a) (.int .i64 b) (.int .i64 c) (.int .i64 d) (.slice ay l cy) (.slice az m cz)∧Res9 w W5 (w.heap.size+1)∧(∃lo,w.heap.size+2<lo∧IvR lo W5.heap.size W5 (.slice a1 N.sn.length k1) (.slice g1 N.lg.length j1) N.sn N.lg)) ?sc4False ?_
   case sc4False=>
    have hw5:Wr (fun x=>x=w.heap.size+2) X1 (((((((X1.setCell ⟨w.heap.size+2,0,none⟩ (.int .i64 C)).setCell ⟨w.heap.size+2,1,none⟩ (.int .i64 N.tm)).setCell ⟨w.heap.size+2,2,none⟩ (.int .i64 N.vt)).setCell ⟨w.heap.size+2,3,none⟩ (.int .i64 N.si)).setCell ⟨w.heap.size+2,4,none⟩ (.int .i64 N.st)).setCell ⟨w.heap.size+2,5,none⟩ (.slice a1 N.sn.length k1)).setCell ⟨w.heap.size+2,6,none⟩ (.slice g1 N.lg.length j1)):=(Wr.setCell (p:=⟨w.heap.size+2,6,none⟩) (Wr.setCell (p:=⟨w.heap.size+2,5,none⟩) (Wr.setCell (p:=⟨w.heap.size+2,4,none⟩) (Wr.setCell (p:=⟨w.heap.size+2,3,none⟩) (Wr.setCell (p:=⟨w.heap.size+2,2,none⟩) (Wr.setCell (p:=⟨w.heap.size+2,1,none⟩) (Wr.setCell (p:=⟨w.heap.size+2,0,none⟩) (Wr.refl (fun x=>x=w.heap.size+2) _) rfl (.int .i64 C)) rfl (.int .i64 N.tm)) rfl (.int .i64 N.vt)) rfl (.int .i64 N.si)) rfl (.int .i64 N.st)) rfl (.slice a1 N.sn.length k1)) rfl (.slice g1 N.lg.length j1))
    exact ⟨⟨by simp [go_sem,x0],by simp [go_sem,x1],by simp [go_sem,x2],by simp [go_sem,x3],by simp [go_sem,x4],by simp [go_sem,x5],by simp [go_sem,x6]⟩,⟨(set7_otherD hn0).trans Q0,(set7_otherD hn0).trans Q1,(set7_otherD hn0).trans Q2,(set7_otherD hn0).trans Q3,(set7_otherD hn0).trans Q4,(set7_otherD hn0).trans Q5⟩,RY.out.wr hw5 (by omega) (fun b hb=>by omega),X0.heap.size,by omega,(IY.out.wr hw5 (fun b h1 h2 e=>by omega)).up (Nat.le_refl _) hw5.size⟩
   clear Q0 Q1 Q2 Q3 Q4 Q5 Q6 Q7 Q8 Q9 Q10 Q11 x0 x1 x2 x3 x4 x5 x6 e0 e1 e2 e3 e4 e5 e6 hn0 hn1 BY RY XY XFY IY
   rintro W5 ⟨N7,V6,R9,lo,hlo,I5⟩
   have HN7:=hide N7
   have HV6:=hide V6
   have HR9:=hide R9
   have HI5:=hide I5
   obtain ⟨n0,n1,n2,n3,n4,n5,n6⟩:=N7
   clear V6 R9 I5
   obtain ⟨v0,v1,v2,v3,v4,v5⟩:=HV6.out
   go_upto_region 14 with fail
   refine wp_region_held_drew (S:=fun w'=>w'.cell? ⟨w.heap.size+2,0,none⟩=some (.int .i64 C)∧w'.cell? ⟨w.heap.size,0,none⟩=some (.int .i64 a)∧w'.cell? ⟨w.heap.size,1,none⟩=some (.int .i64 b)∧w'.cell? ⟨w.heap.size,2,none⟩=some (.int .i64 c)∧w'.cell? ⟨w.heap.size,3,none⟩=some (.int .i64 d)∧w'.cell? ⟨w.heap.size,4,none⟩=some (.slice ay l cy)∧w'.cell? ⟨w.heap.size,5,none⟩=some (.slice az m cz)) (by kernel_rfl) ⟨n0,v0,v1,v2,v3,v4,v5⟩ (fun hHeld0=>?_)
   refine forgetH (fun wx=>(wx.cell? ⟨w.heap.size+2,0,none⟩=some (.int .i64 C)∧wx.cell? ⟨w.heap.size,0,none⟩=some (.int .i64 a)∧wx.cell? ⟨w.heap.size,1,none⟩=some (.int .i64 b)∧wx.cell? ⟨w.heap.size,2,none⟩=some (.int .i64 c)∧wx.cell? ⟨w.heap.size,3,none⟩=some (.int .i64 d)∧wx.cell? ⟨w.heap.size,4,none⟩=some (.slice ay l cy)∧wx.cell? ⟨w.heap.size,5,none⟩=some (.slice az m cz))∧Below W5.heap.size W5 wx) ⟨hHeld0,below_drewN W5 1⟩ ?_
   clear hHeld0
   rintro Y0 ⟨hHeld,hbx⟩
   obtain ⟨P0,P1,P2,P3,P4,P5,P6⟩:=id hHeld
   have RX:=hide (HR9.out.later hbx)
   have hy0:=hbx.size
   clear hbx
   refine wpAnyH_take (i:=0) (v:=?vt101) rfl (by kernel_rfl) (by kernel_rfl) (by kernel_rfl) (fun _ _ _ h=>h) (Or.inl ⟨by rfl,?ht101⟩) hHeld ?rt101
   case ht101=>intro w9 hSw;(try dsimp only at hSw);first | (go_simp;done) | (go_simp;with_reducible rfl)
   try simp only [Act.put,List.setIfInBounds_toArray,List.set_cons_zero,List.set_cons_succ,List.getElem_toArray,List.getElem_cons_zero,List.getElem_cons_succ]
   refine wpAnyH_take (i:=1) (v:=?vt102) rfl (by kernel_rfl) (by kernel_rfl) (by kernel_rfl) (fun _ _ _ h=>h) (Or.inl ⟨by rfl,?ht102⟩) hHeld ?rt102
   case ht102=>intro w9 hSw;(try dsimp only at hSw);first | (go_simp;done) | (go_simp;with_reducible rfl)
   try simp only [Act.put,List.setIfInBounds_toArray,List.set_cons_zero,List.set_cons_succ,List.getElem_toArray,List.getElem_cons_zero,List.getElem_cons_succ]
   refine wpAnyH_take (i:=2) (v:=?vt103) rfl (by kernel_rfl) (by kernel_rfl) (by kernel_rfl) (fun _ _ _ h=>h) (Or.inl ⟨by rfl,?ht103⟩) hHeld ?rt103
   case ht103=>intro w9 hSw;(try dsimp only at hSw);first | (go_simp;done) | (go_simp;with_reducible rfl)
   try simp only [Act.put,List.setIfInBounds_toArray,List.set_cons_zero,List.set_cons_succ,List.getElem_toArray,List.getElem_cons_zero,List.getElem_cons_succ]
   refine wpAnyH_ready (rs:=[3]) (by kernel_rfl) (by simp) (AllReadyH.cons rfl (fun K hK=>?_) (AllReadyH.nil))
   go_simp
   go_at_call 43
   have HCq:=hide (HCp.out _ RX.out.below)
   refine HCq.out.mono ?_
   rintro e Y1 ⟨y7,z7,rfl,hb,ho⟩
   obtain ⟨a7,k7,g7,j7,hy7,hz7⟩:=ho.shape
   subst hy7
   subst hz7
   have Q0:=cell_later hb P0
   have Q1:=cell_later hb P1
   have Q2:=cell_later hb P2
   have Q3:=cell_later hb P3
   have Q4:=cell_later hb P4
   have Q5:=cell_later hb P5
   have Q6:=cell_later hb P6
   refine hK.out _ _ ⟨Q0,Q1,Q2,Q3,Q4,Q5,Q6⟩ (fun _=>?_)
   clear hK K
   try simp only [Act.put,List.setIfInBounds_toArray,List.set_cons_zero,List.set_cons_succ,List.getElem_toArray,List.getElem_cons_zero,List.getElem_cons_succ]
   have RY:=hide (RX.out.later hb)
   have hxr:=RX.out.lt
   have IY:=hide ho
   clear hb ho hHeld P0 P1 P2 P3 P4 P5 P6
   refine wpAnyH_take (i:=4) (v:=?vt104) rfl (by kernel_rfl) (by kernel_rfl) (by kernel_rfl) (fun _ _ _ h=>h) (Or.inl ⟨by rfl,?ht104⟩) ⟨Q0,Q1,Q2,Q3,Q4,Q5,Q6⟩ ?rt104
   case ht104=>intro w9 hSw;(try dsimp only at hSw);first | (go_simp;done) | (go_simp;with_reducible rfl)
   try simp only [Act.put,List.setIfInBounds_toArray,List.set_cons_zero,List.set_cons_succ,List.getElem_toArray,List.getElem_cons_zero,List.getElem_cons_succ]
   have HFn:=hide (ret_op (w:=w) (r:=w.heap.size+1) (x0:=.int .i64 0) (x1:=.int .i64 C) (x2:=.int .i64 0) (x3:=.int .i64 a) (x4:=.int .i64 b) (x5:=.int .i64 c) (x6:=.int .i64 d) RY.out.below RY.out.ge IY.out (by omega))
   obtain ⟨_,⟨c0,c1,c2,c3,c4,c5,c6,c7,c8⟩,F,_⟩:=RY.out
   have f0:=F 0
   have f1:=F 1
   have f2:=F 2
   have f3:=F 3
   have f4:=F 4
   have f5:=F 5
   have f6:=F 6
   have f7:=F 7
   have f8:=F 8
   clear F
   refine wpAnyH_ready (rs:=[5]) (by kernel_rfl) (by simp) (AllReadyH.cons rfl (fun K hK=>?_) (AllReadyH.nil))
   go_simp
   refine hK.out _ _ ⟨(set9_other (by omega)).trans Q0,(set9_other (by omega)).trans Q1,(set9_other (by omega)).trans Q2,(set9_other (by omega)).trans Q3,(set9_other (by omega)).trans Q4,(set9_other (by omega)).trans Q5,(set9_other (by omega)).trans Q6⟩ (fun _=>?_)
   clear hK K
   try simp only [Act.put,List.setIfInBounds_toArray,List.set_cons_zero,List.set_cons_succ,List.getElem_toArray,List.getElem_cons_zero,List.getElem_cons_succ]
   refine wpAnyH_done (by kernel_rfl) ?_ _
   go_wp2
   refine bodyPost_ret (v:=.agg #[.int .i64 0,.int .i64 C,.int .i64 0,.int .i64 a,.int .i64 b,.int .i64 c,.int .i64 d,.slice a7 r.sn.length k7,.slice g7 r.lg.length j7]) (by simp [results,Tryz.results27,go_sem,c0,c1,c2,c3,c4,c5,c6,c7,c8]) rfl ⟨_,_,rfl,HFn.out.1,HFn.out.2⟩
 ·skip
  obtain ⟨e1,e2,e3⟩:=dy5 (r:=r) h
  have HD:=hide (fun (w':World) (hb:Below w.heap.size w w')=>specTermAt r o.vt (hy.later hb) (hz.later hb))
  rw [e1,e2,e3]
  clear e1 e2 e3
  obtain ⟨C,hC⟩: ∃C,taC r o.vt=C:=⟨_,rfl⟩
  obtain ⟨N,hN⟩: ∃N,taV r o.vt=N:=⟨_,rfl⟩
  rw [hC,hN] at HD
  rw [hC,hN]
  clear hC hN hy hz hu hv hcp hcv h0 h1
  generalize r.sn.length=l at*
  generalize r.lg.length=m at*
  generalize o.sn.length=l2 at*
  generalize o.lg.length=m2 at*
  generalize r.tm=a at*
  generalize r.vt=b at*
  generalize r.si=c at*
  generalize r.st=d at*
  generalize o.tm=a2 at*
  generalize o.vt=b2 at*
  generalize o.si=c2 at*
  generalize o.st=d2 at*
  subst h
  have BA0:=below_on (below_alloc w (.cells #[.int .i64 a,.int .i64 b,.int .i64 c,.int .i64 d,.slice ay l cy,.slice az m cz] 27)) (below_alloc _ (.cells #[.int .i64 0,.int .i64 0,.int .i64 0,.int .i64 0,.int .i64 0,.int .i64 0,.int .i64 0,.slice none 0 0,.slice none 0 0] 33))
  have VR0:=(Var6_new w (.int .i64 a) (.int .i64 b) (.int .i64 c) (.int .i64 d) (.slice ay l cy) (.slice az m cz) 27).later (below_alloc _ (.cells #[.int .i64 0,.int .i64 0,.int .i64 0,.int .i64 0,.int .i64 0,.int .i64 0,.int .i64 0,.slice none 0 0,.slice none 0 0] 33))
  have RA0:=Res9.new (below_alloc w (.cells #[.int .i64 a,.int .i64 b,.int .i64 c,.int .i64 d,.slice ay l cy,.slice az m cz] 27)) 33
  rw [World.size_alloc] at RA0
  obtain ⟨W2,hW2⟩: ∃x,((w.alloc (.cells #[.int .i64 a,.int .i64 b,.int .i64 c,.int .i64 d,.slice ay l cy,.slice az m cz] 27)).alloc (.cells #[.int .i64 0,.int .i64 0,.int .i64 0,.int .i64 0,.int .i64 0,.int .i64 0,.int .i64 0,.slice none 0 0,.slice none 0 0] 33))=x:=⟨_,rfl⟩
  have hs2:W2.heap.size=w.heap.size+2:=by rw [← hW2];simp
  rw [hW2] at BA0 VR0 RA0
  have BA2:=hide BA0
  have VA2:=hide VR0
  have RA2:=hide RA0
  clear BA0 VR0 RA0
  go_enter Tryz.func27,Tryz.ntmps27
  go_upto_region 1 with fail
  (try rw [hW2])
  clear hW2
  go_upto_region 2 with fail
  have hbd:=below_alloc W2 (.cells #[.int .i64 0,.int .i64 0,.int .i64 0,.int .i64 0,.int .i64 0,.slice none 0 0,.slice none 0 0] 79)
  have BA:=hide (below_on BA2.out hbd)
  have VA:=hide (VA2.out.later hbd)
  have RA:=hide (RA2.out.later hbd)
  have XA0:=Var7_new W2 (.int .i64 0) (.int .i64 0) (.int .i64 0) (.int .i64 0) (.int .i64 0) (.slice none 0 0) (.slice none 0 0) 79
  rw [hs2] at XA0
  have XA:=hide XA0
  have XF0: ∀q,(W2.alloc (.cells #[.int .i64 0,.int .i64 0,.int .i64 0,.int .i64 0,.int .i64 0,.slice none 0 0,.slice none 0 0] 79)).frozen? ⟨w.heap.size+2,q,none⟩=false:=fun q=>by rw [← hs2];simp [go_sem]
  have XF:=hide XF0
  obtain ⟨W3,hW3⟩: ∃x,W2.alloc (.cells #[.int .i64 0,.int .i64 0,.int .i64 0,.int .i64 0,.int .i64 0,.slice none 0 0,.slice none 0 0] 79)=x:=⟨_,rfl⟩
  have hs3:W3.heap.size=w.heap.size+3:=by rw [← hW3];simp [hs2]
  rw [hW3] at BA VA RA XA XF
  (try rw [hW3])
  (try simp only [hs2])
  have OA:=hide (HO6.out.later BA.out)
  clear hbd XA0 XF0 hW3 BA2 VA2 RA2 hs2 HO6
  obtain ⟨v0,v1,v2,v3,v4,v5⟩:=VA.out
  obtain ⟨p0,p1,p2,p3,p4,p5⟩:=OA.out
  go_upto_region 3 with fail
  refine wp_region_held_drew (S:=fun w'=>w'.cell? ⟨w.heap.size,0,none⟩=some (.int .i64 a)∧w'.cell? ⟨w.heap.size,1,none⟩=some (.int .i64 b)∧w'.cell? ⟨w.heap.size,2,none⟩=some (.int .i64 c)∧w'.cell? ⟨w.heap.size,3,none⟩=some (.int .i64 d)∧w'.cell? ⟨w.heap.size,4,none⟩=some (.slice ay l cy)∧w'.cell? ⟨w.heap.size,5,none⟩=some (.slice az m cz)∧w'.cell? ⟨bk,ob,none⟩=some (.int .i64 5)∧w'.cell? ⟨bk,ob+1,none⟩=some (.int .i64 b2)∧w'.cell? ⟨bk,ob+2,none⟩=some (.int .i64 c2)∧w'.cell? ⟨bk,ob+3,none⟩=some (.int .i64 d2)∧w'.cell? ⟨bk,ob+4,none⟩=some (.slice au l2 cu)∧w'.cell? ⟨bk,ob+5,none⟩=some (.slice av m2 cv)) (by kernel_rfl) ⟨v0,v1,v2,v3,v4,v5,p0,p1,p2,p3,p4,p5⟩ (fun hHeld0=>?_)
  refine forgetH (fun wx=>(wx.cell? ⟨w.heap.size,0,none⟩=some (.int .i64 a)∧wx.cell? ⟨w.heap.size,1,none⟩=some (.int .i64 b)∧wx.cell? ⟨w.heap.size,2,none⟩=some (.int .i64 c)∧wx.cell? ⟨w.heap.size,3,none⟩=some (.int .i64 d)∧wx.cell? ⟨w.heap.size,4,none⟩=some (.slice ay l cy)∧wx.cell? ⟨w.heap.size,5,none⟩=some (.slice az m cz)∧wx.cell? ⟨bk,ob,none⟩=some (.int .i64 5)∧wx.cell? ⟨bk,ob+1,none⟩=some (.int .i64 b2)∧wx.cell? ⟨bk,ob+2,none⟩=some (.int .i64 c2)∧wx.cell? ⟨bk,ob+3,none⟩=some (.int .i64 d2)∧wx.cell? ⟨bk,ob+4,none⟩=some (.slice au l2 cu)∧wx.cell? ⟨bk,ob+5,none⟩=some (.slice av m2 cv))∧Below W3.heap.size W3 wx) ⟨hHeld0,below_drewN W3 1⟩ ?_
  clear hHeld0 v0 v1 v2 v3 v4 v5 p0 p1 p2 p3 p4 p5
  rintro X0 ⟨hHeld,hbx⟩
  obtain ⟨P0,P1,P2,P3,P4,P5,P6,P7,P8,P9,P10,P11⟩:=id hHeld
  have hx0:=hbx.size
  have BX:=hide (below_on BA.out hbx)
  have RX:=hide (RA.out.later hbx)
  have XX:=hide (XA.out.later hbx)
  have XFX:Hid (∀q,X0.frozen? ⟨w.heap.size+2,q,none⟩=false):=fun q=>((bcell hbx).2 _ _ XA.out.lt).trans (XF.out q)
  clear hbx BA VA RA XA OA XF
  refine wpAnyH_take (i:=0) (v:=?vt105) rfl (by kernel_rfl) (by kernel_rfl) (by kernel_rfl) (fun _ _ _ h=>h) (Or.inl ⟨by rfl,?ht105⟩) hHeld ?rt105
  case ht105=>intro w9 hSw;(try dsimp only at hSw);first | (go_simp;done) | (go_simp;with_reducible rfl)
  try simp only [Act.put,List.setIfInBounds_toArray,List.set_cons_zero,List.set_cons_succ,List.getElem_toArray,List.getElem_cons_zero,List.getElem_cons_succ]
  refine wpAnyH_take (i:=1) (v:=?vt106) rfl (by kernel_rfl) (by kernel_rfl) (by kernel_rfl) (fun _ _ _ h=>h) (Or.inl ⟨by rfl,?ht106⟩) hHeld ?rt106
  case ht106=>intro w9 hSw;(try dsimp only at hSw);first | (go_simp;done) | (go_simp;with_reducible rfl)
  try simp only [Act.put,List.setIfInBounds_toArray,List.set_cons_zero,List.set_cons_succ,List.getElem_toArray,List.getElem_cons_zero,List.getElem_cons_succ]
  refine wpAnyH_take (i:=2) (v:=?vt107) rfl (by kernel_rfl) (by kernel_rfl) (by kernel_rfl) (fun _ _ _ h=>h) (Or.inl ⟨by rfl,?ht107⟩) hHeld ?rt107
  case ht107=>intro w9 hSw;(try dsimp only at hSw);first | (go_simp;done) | (go_simp;with_reducible rfl)
  try simp only [Act.put,List.setIfInBounds_toArray,List.set_cons_zero,List.set_cons_succ,List.getElem_toArray,List.getElem_cons_zero,List.getElem_cons_succ]
  refine wpAnyH_take (i:=3) (v:=?vt108) rfl (by kernel_rfl) (by kernel_rfl) (by kernel_rfl) (fun _ _ _ h=>h) (Or.inl ⟨by rfl,?ht108⟩) hHeld ?rt108
  case ht108=>intro w9 hSw;(try dsimp only at hSw);first | (go_simp;done) | (go_simp;with_reducible rfl)
  try simp only [Act.put,List.setIfInBounds_toArray,List.set_cons_zero,List.set_cons_succ,List.getElem_toArray,List.getElem_cons_zero,List.getElem_cons_succ]
  refine wpAnyH_take (i:=4) (v:=?vt109) rfl (by kernel_rfl) (by kernel_rfl) (by kernel_rfl) (fun _ _ _ h=>h) (Or.inl ⟨by rfl,?ht109⟩) hHeld ?rt109
  case ht109=>intro w9 hSw;(try dsimp only at hSw);first | (go_simp;done) | (go_simp;with_reducible rfl)
  try simp only [Act.put,List.setIfInBounds_toArray,List.set_cons_zero,List.set_cons_succ,List.getElem_toArray,List.getElem_cons_zero,List.getElem_cons_succ]
  refine wpAnyH_ready (rs:=[5,6]) (by kernel_rfl) (by simp) (AllReadyH.cons rfl (fun K hK=>?_) (AllReadyH.cons rfl (fun K hK=>?_) (AllReadyH.nil)))
  ·skip
   go_simp
   go_at_call 60
   refine (HD.out _ BX.out).mono ?_
   rintro e X1 ⟨rfl,hb⟩
   have Q0:=cell_later hb P0
   have Q1:=cell_later hb P1
   have Q2:=cell_later hb P2
   have Q3:=cell_later hb P3
   have Q4:=cell_later hb P4
   have Q5:=cell_later hb P5
   have Q6:=cell_later hb P6
   have Q7:=cell_later hb P7
   have Q8:=cell_later hb P8
   have Q9:=cell_later hb P9
   have Q10:=cell_later hb P10
   have Q11:=cell_later hb P11
   refine hK.out _ _ ⟨Q0,Q1,Q2,Q3,Q4,Q5,Q6,Q7,Q8,Q9,Q10,Q11⟩ (fun _=>?_)
   clear hK K HD
   try simp only [Act.put,List.setIfInBounds_toArray,List.set_cons_zero,List.set_cons_succ,List.getElem_toArray,List.getElem_cons_zero,List.getElem_cons_succ]
   have RY:=hide (RX.out.later hb)
   have hx1:=hb.size
   clear hb hHeld BX RX XX XFX P0 P1 P2 P3 P4 P5 P6 P7 P8 P9 P10 P11
   refine wpAnyH_ready (rs:=[6]) (by kernel_rfl) (by simp) (AllReadyH.cons rfl (fun K hK=>?_) (AllReadyH.nil))
   go_simp
   have hb:=below_alloc X1 (.cells #[.int .i64 0,.int .i64 0] 60)
   have S0:=cell_later hb Q0
   have S1:=cell_later hb Q1
   have S2:=cell_later hb Q2
   have S3:=cell_later hb Q3
   have S4:=cell_later hb Q4
   have S5:=cell_later hb Q5
   have S6:=cell_later hb Q6
   have S7:=cell_later hb Q7
   have S8:=cell_later hb Q8
   have S9:=cell_later hb Q9
   have S10:=cell_later hb Q10
   have S11:=cell_later hb Q11
   refine hK.out _ _ ⟨S0,S1,S2,S3,S4,S5,S6,S7,S8,S9,S10,S11⟩ (fun _=>?_)
   clear hK K
   try simp only [Act.put,List.setIfInBounds_toArray,List.set_cons_zero,List.set_cons_succ,List.getElem_toArray,List.getElem_cons_zero,List.getElem_cons_succ]
   have RZ:=hide (RY.out.later hb)
   have T2:=hide (Var2_new X1 (.int .i64 0) (.int .i64 0) 60)
   have TF:Hid (∀q,(X1.alloc (.cells #[.int .i64 0,.int .i64 0] 60)).frozen? ⟨X1.heap.size,q,none⟩=false):=fun q=>by simp [go_sem]
   obtain ⟨X2,hX2⟩: ∃x,X1.alloc (.cells #[.int .i64 0,.int .i64 0] 60)=x:=⟨_,rfl⟩
   refine forgetH (fun wx=>wx=X2) hX2 ?_
   rw [hX2] at RZ T2 TF S0 S1 S2 S3 S4 S5 S6 S7 S8 S9 S10 S11
   clear hX2 hb RY Q0 Q1 Q2 Q3 Q4 Q5 Q6 Q7 Q8 Q9 Q10 Q11
   intro wz hwz
   rw [hwz]
   clear hwz wz
   obtain ⟨t0,t1⟩:=T2.out
   have u0:=TF.out 0
   have u1:=TF.out 1
   refine wpAnyH_ready (rs:=[7]) (by kernel_rfl) (by simp) (AllReadyH.cons rfl (fun K hK=>?_) (AllReadyH.nil))
   go_simp
   have hn0:w.heap.size≠X1.heap.size:=by omega
   have hn1:bk≠X1.heap.size:=by omega
   refine hK.out _ _ ⟨(set2_otherD hn0).trans S0,(set2_otherD hn0).trans S1,(set2_otherD hn0).trans S2,(set2_otherD hn0).trans S3,(set2_otherD hn0).trans S4,(set2_otherD hn0).trans S5,(set2_otherD hn1).trans S6,(set2_otherD hn1).trans S7,(set2_otherD hn1).trans S8,(set2_otherD hn1).trans S9,(set2_otherD hn1).trans S10,(set2_otherD hn1).trans S11⟩ (fun _=>?_)
   clear hK K
   try simp only [Act.put,List.setIfInBounds_toArray,List.set_cons_zero,List.set_cons_succ,List.getElem_toArray,List.getElem_cons_zero,List.getElem_cons_succ]
   refine wpAnyH_done (by kernel_rfl) ?_ _
   refine forgetX (fun W5=>Var2 W5 (X1.heap.size) (.int .i64 C) (.int .i64 N)∧Var6 W5 w.heap.size (.int .i64 a) (.int .i64 b) (.int .i64 c) (.int .i64 d) (.slice ay l cy) (.slice az m cz)∧Res9 w W5 (w.heap.size+1)∧X1.heap.size<W5.heap.size) ?sra ?_
   case sra=>
    have hw5:Wr (fun x=>x=X1.heap.size) X2 ((X2.setCell ⟨X1.heap.size,0,none⟩ (.int .i64 C)).setCell ⟨X1.heap.size,1,none⟩ (.int .i64 N)):=(Wr.setCell (p:=⟨X1.heap.size,1,none⟩) (Wr.setCell (p:=⟨X1.heap.size,0,none⟩) (Wr.refl (fun x=>x=X1.heap.size) _) rfl (.int .i64 C)) rfl (.int .i64 N))
    exact ⟨⟨by simp [go_sem,t0],by simp [go_sem,t1]⟩,⟨(set2_otherD hn0).trans S0,(set2_otherD hn0).trans S1,(set2_otherD hn0).trans S2,(set2_otherD hn0).trans S3,(set2_otherD hn0).trans S4,(set2_otherD hn0).trans S5⟩,RZ.out.wr hw5 (by omega) (fun b hb=>by omega),Nat.lt_of_lt_of_le T2.out.lt hw5.size⟩
   clear S0 S1 S2 S3 S4 S5 S6 S7 S8 S9 S10 S11 t0 t1 u0 u1 hn0 hn1 T2 TF RZ
   rintro W5 ⟨N2,V6,R9,hbt⟩
   have HR9:=hide R9
   obtain ⟨n0,n1⟩:=id N2
   obtain ⟨v0,v1,v2,v3,v4,v5⟩:=id V6
   clear R9
   go_upto_region 4 with fail
   refine wp_region_held_drew (S:=fun w'=>w'.cell? ⟨X1.heap.size,0,none⟩=some (.int .i64 C)∧w'.cell? ⟨X1.heap.size,1,none⟩=some (.int .i64 N)∧w'.cell? ⟨w.heap.size,0,none⟩=some (.int .i64 a)∧w'.cell? ⟨w.heap.size,1,none⟩=some (.int .i64 b)∧w'.cell? ⟨w.heap.size,2,none⟩=some (.int .i64 c)∧w'.cell? ⟨w.heap.size,3,none⟩=some (.int .i64 d)∧w'.cell? ⟨w.heap.size,4,none⟩=some (.slice ay l cy)∧w'.cell? ⟨w.heap.size,5,none⟩=some (.slice az m cz)) (by kernel_rfl) ⟨n0,n1,v0,v1,v2,v3,v4,v5⟩ (fun hHeld0=>?_)
   refine forgetH (fun wx=>(wx.cell? ⟨X1.heap.size,0,none⟩=some (.int .i64 C)∧wx.cell? ⟨X1.heap.size,1,none⟩=some (.int .i64 N)∧wx.cell? ⟨w.heap.size,0,none⟩=some (.int .i64 a)∧wx.cell? ⟨w.heap.size,1,none⟩=some (.int .i64 b)∧wx.cell? ⟨w.heap.size,2,none⟩=some (.int .i64 c)∧wx.cell? ⟨w.heap.size,3,none⟩=some (.int .i64 d)∧wx.cell? ⟨w.heap.size,4,none⟩=some (.slice ay l cy)∧wx.cell? ⟨w.heap.size,5,none⟩=some (.slice az m cz))∧Below W5.heap.size W5 wx) ⟨hHeld0,below_drewN W5 1⟩ ?_
   clear hHeld0
   rintro Y0 ⟨hHeld,hbx⟩
   obtain ⟨P0,P1,P2,P3,P4,P5,P6,P7⟩:=id hHeld
   have RX:=hide (HR9.out.later hbx)
   have hy0:=hbx.size
   clear hbx
   refine wpAnyH_take (i:=0) (v:=?vt110) rfl (by kernel_rfl) (by kernel_rfl) (by kernel_rfl) (fun _ _ _ h=>h) (Or.inl ⟨by rfl,?ht110⟩) hHeld ?rt110
   case ht110=>intro w9 hSw;(try dsimp only at hSw);first | (go_simp;done) | (go_simp;with_reducible rfl)
   try simp only [Act.put,List.setIfInBounds_toArray,List.set_cons_zero,List.set_cons_succ,List.getElem_toArray,List.getElem_cons_zero,List.getElem_cons_succ]
   refine wpAnyH_take (i:=1) (v:=?vt111) rfl (by kernel_rfl) (by kernel_rfl) (by kernel_rfl) (fun _ _ _ h=>h) (Or.inl ⟨by rfl,?ht111⟩) hHeld ?rt111
   case ht111=>intro w9 hSw;(try dsimp only at hSw);first | (go_simp;done) | (go_simp;with_reducible rfl)
   try simp only [Act.put,List.setIfInBounds_toArray,List.set_cons_zero,List.set_cons_succ,List.getElem_toArray,List.getElem_cons_zero,List.getElem_cons_succ]
   refine wpAnyH_take (i:=2) (v:=?vt112) rfl (by kernel_rfl) (by kernel_rfl) (by kernel_rfl) (fun _ _ _ h=>h) (Or.inl ⟨by rfl,?ht112⟩) hHeld ?rt112
   case ht112=>intro w9 hSw;(try dsimp only at hSw);first | (go_simp;done) | (go_simp;with_reducible rfl)
   try simp only [Act.put,List.setIfInBounds_toArray,List.set_cons_zero,List.set_cons_succ,List.getElem_toArray,List.getElem_cons_zero,List.getElem_cons_succ]
   refine wpAnyH_take (i:=3) (v:=?vt113) rfl (by kernel_rfl) (by kernel_rfl) (by kernel_rfl) (fun _ _ _ h=>h) (Or.inl ⟨by rfl,?ht113⟩) hHeld ?rt113
   case ht113=>intro w9 hSw;(try dsimp only at hSw);first | (go_simp;done) | (go_simp;with_reducible rfl)
   try simp only [Act.put,List.setIfInBounds_toArray,List.set_cons_zero,List.set_cons_succ,List.getElem_toArray,List.getElem_cons_zero,List.getElem_cons_succ]
   refine wpAnyH_take (i:=4) (v:=?vt114) rfl (by kernel_rfl) (by kernel_rfl) (by kernel_rfl) (fun _ _ _ h=>h) (Or.inl ⟨by rfl,?ht114⟩) hHeld ?rt114
   case ht114=>intro w9 hSw;(try dsimp only at hSw);first | (go_simp;done) | (go_simp;with_reducible rfl)
   try simp only [Act.put,List.setIfInBounds_toArray,List.set_cons_zero,List.set_cons_succ,List.getElem_toArray,List.getElem_cons_zero,List.getElem_cons_succ]
   refine wpAnyH_ready (rs:=[5]) (by kernel_rfl) (by simp) (AllReadyH.cons rfl (fun K hK=>?_) (AllReadyH.nil))
   go_simp
   go_at_call 43
   have HCq:=hide (HCp.out _ RX.out.below)
   refine HCq.out.mono ?_
   rintro e Y1 ⟨y7,z7,rfl,hb,ho⟩
   obtain ⟨a7,k7,g7,j7,hy7,hz7⟩:=ho.shape
   subst hy7
   subst hz7
   have Q0:=cell_later hb P0
   have Q1:=cell_later hb P1
   have Q2:=cell_later hb P2
   have Q3:=cell_later hb P3
   have Q4:=cell_later hb P4
   have Q5:=cell_later hb P5
   have Q6:=cell_later hb P6
   have Q7:=cell_later hb P7
   refine hK.out _ _ ⟨Q0,Q1,Q2,Q3,Q4,Q5,Q6,Q7⟩ (fun _=>?_)
   clear hK K
   try simp only [Act.put,List.setIfInBounds_toArray,List.set_cons_zero,List.set_cons_succ,List.getElem_toArray,List.getElem_cons_zero,List.getElem_cons_succ]
   have RY:=hide (RX.out.later hb)
   have hxr:=RX.out.lt
   have IY:=hide ho
   clear hb ho hHeld P0 P1 P2 P3 P4 P5 P6 P7
   refine wpAnyH_take (i:=6) (v:=?vt115) rfl (by kernel_rfl) (by kernel_rfl) (by kernel_rfl) (fun _ _ _ h=>h) (Or.inl ⟨by rfl,?ht115⟩) ⟨Q0,Q1,Q2,Q3,Q4,Q5,Q6,Q7⟩ ?rt115
   case ht115=>intro w9 hSw;(try dsimp only at hSw);first | (go_simp;done) | (go_simp;with_reducible rfl)
   try simp only [Act.put,List.setIfInBounds_toArray,List.set_cons_zero,List.set_cons_succ,List.getElem_toArray,List.getElem_cons_zero,List.getElem_cons_succ]
   have HFn:=hide (ret_op (w:=w) (r:=w.heap.size+1) (x0:=.int .i64 0) (x1:=.int .i64 C) (x2:=.int .i64 N) (x3:=.int .i64 a) (x4:=.int .i64 b) (x5:=.int .i64 c) (x6:=.int .i64 d) RY.out.below RY.out.ge IY.out (by omega))
   obtain ⟨_,⟨c0,c1,c2,c3,c4,c5,c6,c7,c8⟩,F,_⟩:=RY.out
   have f0:=F 0
   have f1:=F 1
   have f2:=F 2
   have f3:=F 3
   have f4:=F 4
   have f5:=F 5
   have f6:=F 6
   have f7:=F 7
   have f8:=F 8
   clear F
   refine wpAnyH_ready (rs:=[7]) (by kernel_rfl) (by simp) (AllReadyH.cons rfl (fun K hK=>?_) (AllReadyH.nil))
   go_simp
   refine hK.out _ _ ⟨(set9_other (by omega)).trans Q0,(set9_other (by omega)).trans Q1,(set9_other (by omega)).trans Q2,(set9_other (by omega)).trans Q3,(set9_other (by omega)).trans Q4,(set9_other (by omega)).trans Q5,(set9_other (by omega)).trans Q6,(set9_other (by omega)).trans Q7⟩ (fun _=>?_)
   clear hK K
   try simp only [Act.put,List.setIfInBounds_toArray,List.set_cons_zero,List.set_cons_succ,List.getElem_toArray,List.getElem_cons_zero,List.getElem_cons_succ]
   refine wpAnyH_done (by kernel_rfl) ?_ _
   go_wp2
   refine bodyPost_ret (v:=.agg #[.int .i64 0,.int .i64 C,.int .i64 N,.int .i64 a,.int .i64 b,.int .i64 c,.int .i64 d,.slice a7 r.sn.length k7,.slice g7 r.lg.length j7]) (by simp [results,Tryz.results27,go_sem,c0,c1,c2,c3,c4,c5,c6,c7,c8]) rfl ⟨_,_,rfl,HFn.out.1,HFn.out.2⟩
  ·skip
   go_simp
   have hb:=below_alloc X0 (.cells #[.int .i64 0,.int .i64 0] 60)
   have Q0:=cell_later hb P0
   have Q1:=cell_later hb P1
   have Q2:=cell_later hb P2
   have Q3:=cell_later hb P3
   have Q4:=cell_later hb P4
   have Q5:=cell_later hb P5
   have Q6:=cell_later hb P6
   have Q7:=cell_later hb P7
   have Q8:=cell_later hb P8
   have Q9:=cell_later hb P9
   have Q10:=cell_later hb P10
   have Q11:=cell_later hb P11
   refine hK.out _ _ ⟨Q0,Q1,Q2,Q3,Q4,Q5,Q6,Q7,Q8,Q9,Q10,Q11⟩ (fun _=>?_)
   clear hK K
   try simp only [Act.put,List.setIfInBounds_toArray,List.set_cons_zero,List.set_cons_succ,List.getElem_toArray,List.getElem_cons_zero,List.getElem_cons_succ]
   have RY:=hide (RX.out.later hb)
   have BY:=hide (below_on BX.out hb)
   have T1:=hide (Var2_new X0 (.int .i64 0) (.int .i64 0) 60)
   have TF1:Hid (∀q,(X0.alloc (.cells #[.int .i64 0,.int .i64 0] 60)).frozen? ⟨X0.heap.size,q,none⟩=false):=fun q=>by simp [go_sem]
   obtain ⟨X1,hX1⟩: ∃x,X0.alloc (.cells #[.int .i64 0,.int .i64 0] 60)=x:=⟨_,rfl⟩
   refine forgetH (fun wx=>wx=X1) hX1 ?_
   rw [hX1] at RY BY T1 TF1 Q0 Q1 Q2 Q3 Q4 Q5 Q6 Q7 Q8 Q9 Q10 Q11
   clear hX1 hb hHeld BX RX XX XFX P0 P1 P2 P3 P4 P5 P6 P7 P8 P9 P10 P11
   intro wz hwz
   rw [hwz]
   clear hwz wz
   refine wpAnyH_ready (rs:=[5]) (by kernel_rfl) (by simp) (AllReadyH.cons rfl (fun K hK=>?_) (AllReadyH.nil))
   go_simp
   go_at_call 60
   refine (HD.out _ BY.out).mono ?_
   rintro e X2 ⟨rfl,hb⟩
   have S0:=cell_later hb Q0
   have S1:=cell_later hb Q1
   have S2:=cell_later hb Q2
   have S3:=cell_later hb Q3
   have S4:=cell_later hb Q4
   have S5:=cell_later hb Q5
   have S6:=cell_later hb Q6
   have S7:=cell_later hb Q7
   have S8:=cell_later hb Q8
   have S9:=cell_later hb Q9
   have S10:=cell_later hb Q10
   have S11:=cell_later hb Q11
   refine hK.out _ _ ⟨S0,S1,S2,S3,S4,S5,S6,S7,S8,S9,S10,S11⟩ (fun _=>?_)
   clear hK K HD
   try simp only [Act.put,List.setIfInBounds_toArray,List.set_cons_zero,List.set_cons_succ,List.getElem_toArray,List.getElem_cons_zero,List.getElem_cons_succ]
   have RZ:=hide (RY.out.later hb)
   have T2:=hide (T1.out.later hb)
   have TF:Hid (∀q,X2.frozen? ⟨X0.heap.size,q,none⟩=false):=fun q=>((bcell hb).2 _ _ T1.out.lt).trans (TF1.out q)
   clear hb RY BY T1 TF1 Q0 Q1 Q2 Q3 Q4 Q5 Q6 Q7 Q8 Q9 Q10 Q11
   obtain ⟨t0,t1⟩:=T2.out
   have u0:=TF.out 0
   have u1:=TF.out 1
   refine wpAnyH_ready (rs:=[7]) (by kernel_rfl) (by simp) (AllReadyH.cons rfl (fun K hK=>?_) (AllReadyH.nil))
   go_simp
   have hn0:w.heap.size≠X0.heap.size:=by omega
   have hn1:bk≠X0.heap.size:=by omega
   refine hK.out _ _ ⟨(set2_otherD hn0).trans S0,(set2_otherD hn0).trans S1,(set2_otherD hn0).trans S2,(set2_otherD hn0).trans S3,(set2_otherD hn0).trans S4,(set2_otherD hn0).trans S5,(set2_otherD hn1).trans S6,(set2_otherD hn1).trans S7,(set2_otherD hn1).trans S8,(set2_otherD hn1).trans S9,(set2_otherD hn1).trans S10,(set2_otherD hn1).trans S11⟩ (fun _=>?_)
   clear hK K
   try simp only [Act.put,List.setIfInBounds_toArray,List.set_cons_zero,List.set_cons_succ,List.getElem_toArray,List.getElem_cons_zero,List.getElem_cons_succ]
   refine wpAnyH_done (by kernel_rfl) ?_ _
   refine forgetX (fun W5=>Var2 W5 (X0.heap.size) (.int .i64 C) (.int .i64 N)∧Var6 W5 w.heap.size (.int .i64 a) (.int .i64 b) (.int .i64 c) (.int .i64 d) (.slice ay l cy) (.slice az m cz)∧Res9 w W5 (w.heap.size+1)∧X0.heap.size<W5.heap.size) ?srb ?_
   case srb=>
    have hw5:Wr (fun x=>x=X0.heap.size) X2 ((X2.setCell ⟨X0.heap.size,0,none⟩ (.int .i64 C)).setCell ⟨X0.heap.size,1,none⟩ (.int .i64 N)):=(Wr.setCell (p:=⟨X0.heap.size,1,none⟩) (Wr.setCell (p:=⟨X0.heap.size,0,none⟩) (Wr.refl (fun x=>x=X0.heap.size) _) rfl (.int .i64 C)) rfl (.int .i64 N))
    exact ⟨⟨by simp [go_sem,t0],by simp [go_sem,t1]⟩,⟨(set2_otherD hn0).trans S0,(set2_otherD hn0).trans S1,(set2_otherD hn0).trans S2,(set2_otherD hn0).trans S3,(set2_otherD hn0).trans S4,(set2_otherD hn0).trans S5⟩,RZ.out.wr hw5 (by omega) (fun b hb=>by omega),Nat.lt_of_lt_of_le T2.out.lt hw5.size⟩
   clear S0 S1 S2 S3 S4 S5 S6 S7 S8 S9 S10 S11 t0 t1 u0 u1 hn0 hn1 T2 TF RZ
   rintro W5 ⟨N2,V6,R9,hbt⟩
   have HR9:=hide R9
   obtain ⟨n0,n1⟩:=id N2
   obtain ⟨v0,v1,v2,v3,v4,v5⟩:=id V6
   clear R9
   go_upto_region 4 with fail
   refine wp_region_held_drew (S:=fun w'=>w'.cell? ⟨X0.heap.size,0,none⟩=some (.int .i64 C)∧w'.cell? ⟨X0.heap.size,1,none⟩=some (.int .i64 N)∧w'.cell? ⟨w.heap.size,0,none⟩=some (.int .i64 a)∧w'.cell? ⟨w.heap.size,1,none⟩=some (.int .i64 b)∧w'.cell? ⟨w.heap.size,2,none⟩=some (.int .i64 c)∧w'.cell? ⟨w.heap.size,3,none⟩=some (.int .i64 d)∧w'.cell? ⟨w.heap.size,4,none⟩=some (.slice ay l cy)∧w'.cell? ⟨w.heap.size,5,none⟩=some (.slice az m cz)) (by kernel_rfl) ⟨n0,n1,v0,v1,v2,v3,v4,v5⟩ (fun hHeld0=>?_)
   refine forgetH (fun wx=>(wx.cell? ⟨X0.heap.size,0,none⟩=some (.int .i64 C)∧wx.cell? ⟨X0.heap.size,1,none⟩=some (.int .i64 N)∧wx.cell? ⟨w.heap.size,0,none⟩=some (.int .i64 a)∧wx.cell? ⟨w.heap.size,1,none⟩=some (.int .i64 b)∧wx.cell? ⟨w.heap.size,2,none⟩=some (.int .i64 c)∧wx.cell? ⟨w.heap.size,3,none⟩=some (.int .i64 d)∧wx.cell? ⟨w.heap.size,4,none⟩=some (.slice ay l cy)∧wx.cell? ⟨w.heap.size,5,none⟩=some (.slice az m cz))∧Below W5.heap.size W5 wx) ⟨hHeld0,below_drewN W5 1⟩ ?_
   clear hHeld0
   rintro Y0 ⟨hHeld,hbx⟩
   obtain ⟨P0,P1,P2,P3,P4,P5,P6,P7⟩:=id hHeld
   have RX:=hide (HR9.out.later hbx)
   have hy0:=hbx.size
   clear hbx
   refine wpAnyH_take (i:=0) (v:=?vt116) rfl (by kernel_rfl) (by kernel_rfl) (by kernel_rfl) (fun _ _ _ h=>h) (Or.inl ⟨by rfl,?ht116⟩) hHeld ?rt116
   case ht116=>intro w9 hSw;(try dsimp only at hSw);first | (go_simp;done) | (go_simp;with_reducible rfl)
   try simp only [Act.put,List.setIfInBounds_toArray,List.set_cons_zero,List.set_cons_succ,List.getElem_toArray,List.getElem_cons_zero,List.getElem_cons_succ]
   refine wpAnyH_take (i:=1) (v:=?vt117) rfl (by kernel_rfl) (by kernel_rfl) (by kernel_rfl) (fun _ _ _ h=>h) (Or.inl ⟨by rfl,?ht117⟩) hHeld ?rt117
   case ht117=>intro w9 hSw;(try dsimp only at hSw);first | (go_simp;done) | (go_simp;with_reducible rfl)
   try simp only [Act.put,List.setIfInBounds_toArray,List.set_cons_zero,List.set_cons_succ,List.getElem_toArray,List.getElem_cons_zero,List.getElem_cons_succ]
   refine wpAnyH_take (i:=2) (v:=?vt118) rfl (by kernel_rfl) (by kernel_rfl) (by kernel_rfl) (fun _ _ _ h=>h) (Or.inl ⟨by rfl,?ht118⟩) hHeld ?rt118
   case ht118=>intro w9 hSw;(try dsimp only at hSw);first | (go_simp;done) | (go_simp;with_reducible rfl)
   try simp only [Act.put,List.setIfInBounds_toArray,List.set_cons_zero,List.set_cons_succ,List.getElem_toArray,List.getElem_cons_zero,List.getElem_cons_succ]
   refine wpAnyH_take (i:=3) (v:=?vt119) rfl (by kernel_rfl) (by kernel_rfl) (by kernel_rfl) (fun _ _ _ h=>h) (Or.inl ⟨by rfl,?ht119⟩) hHeld ?rt119
   case ht119=>intro w9 hSw;(try dsimp only at hSw);first | (go_simp;done) | (go_simp;with_reducible rfl)
   try simp only [Act.put,List.setIfInBounds_toArray,List.set_cons_zero,List.set_cons_succ,List.getElem_toArray,List.getElem_cons_zero,List.getElem_cons_succ]
   refine wpAnyH_take (i:=4) (v:=?vt120) rfl (by kernel_rfl) (by kernel_rfl) (by kernel_rfl) (fun _ _ _ h=>h) (Or.inl ⟨by rfl,?ht120⟩) hHeld ?rt120
   case ht120=>intro w9 hSw;(try dsimp only at hSw);first | (go_simp;done) | (go_simp;with_reducible rfl)
   try simp only [Act.put,List.setIfInBounds_toArray,List.set_cons_zero,List.set_cons_succ,List.getElem_toArray,List.getElem_cons_zero,List.getElem_cons_succ]
   refine wpAnyH_ready (rs:=[5]) (by kernel_rfl) (by simp) (AllReadyH.cons rfl (fun K hK=>?_) (AllReadyH.nil))
   go_simp
   go_at_call 43
   have HCq:=hide (HCp.out _ RX.out.below)
   refine HCq.out.mono ?_
   rintro e Y1 ⟨y7,z7,rfl,hb,ho⟩
   obtain ⟨a7,k7,g7,j7,hy7,hz7⟩:=ho.shape
   subst hy7
   subst hz7
   have Q0:=cell_later hb P0
   have Q1:=cell_later hb P1
   have Q2:=cell_later hb P2
   have Q3:=cell_later hb P3
   have Q4:=cell_later hb P4
   have Q5:=cell_later hb P5
   have Q6:=cell_later hb P6
   have Q7:=cell_later hb P7
   refine hK.out _ _ ⟨Q0,Q1,Q2,Q3,Q4,Q5,Q6,Q7⟩ (fun _=>?_)
   clear hK K
   try simp only [Act.put,List.setIfInBounds_toArray,List.set_cons_zero,List.set_cons_succ,List.getElem_toArray,List.getElem_cons_zero,List.getElem_cons_succ]
   have RY:=hide (RX.out.later hb)
   have hxr:=RX.out.lt
   have IY:=hide ho
   clear hb ho hHeld P0 P1 P2 P3 P4 P5 P6 P7
   refine wpAnyH_take (i:=6) (v:=?vt121) rfl (by kernel_rfl) (by kernel_rfl) (by kernel_rfl) (fun _ _ _ h=>h) (Or.inl ⟨by rfl,?ht121⟩) ⟨Q0,Q1,Q2,Q3,Q4,Q5,Q6,Q7⟩ ?rt121
   case ht121=>intro w9 hSw;(try dsimp only at hSw);first | (go_simp;done) | (go_simp;with_reducible rfl)
   try simp only [Act.put,List.setIfInBounds_toArray,List.set_cons_zero,List.set_cons_succ,List.getElem_toArray,List.getElem_cons_zero,List.getElem_cons_succ]
   have HFn:=hide (ret_op (w:=w) (r:=w.heap.size+1) (x0:=.int .i64 0) (x1:=.int .i64 C) (x2:=.int .i64 N) (x3:=.int .i64 a) (x4:=.int .i64 b) (x5:=.int .i64 c) (x6:=.int .i64 d) RY.out.below RY.out.ge IY.out (by omega))
   obtain ⟨_,⟨c0,c1,c2,c3,c4,c5,c6,c7,c8⟩,F,_⟩:=RY.out
   have f0:=F 0
   have f1:=F 1
   have f2:=F 2
   have f3:=F 3
   have f4:=F 4
   have f5:=F 5
   have f6:=F 6
   have f7:=F 7
   have f8:=F 8
   clear F
   refine wpAnyH_ready (rs:=[7]) (by kernel_rfl) (by simp) (AllReadyH.cons rfl (fun K hK=>?_) (AllReadyH.nil))
   go_simp
   refine hK.out _ _ ⟨(set9_other (by omega)).trans Q0,(set9_other (by omega)).trans Q1,(set9_other (by omega)).trans Q2,(set9_other (by omega)).trans Q3,(set9_other (by omega)).trans Q4,(set9_other (by omega)).trans Q5,(set9_other (by omega)).trans Q6,(set9_other (by omega)).trans Q7⟩ (fun _=>?_)
   clear hK K
   try simp only [Act.put,List.setIfInBounds_toArray,List.set_cons_zero,List.set_cons_succ,List.getElem_toArray,List.getElem_cons_zero,List.getElem_cons_succ]
   refine wpAnyH_done (by kernel_rfl) ?_ _
   go_wp2
   refine bodyPost_ret (v:=.agg #[.int .i64 0,.int .i64 C,.int .i64 N,.int .i64 a,.int .i64 b,.int .i64 c,.int .i64 d,.slice a7 r.sn.length k7,.slice g7 r.lg.length j7]) (by simp [results,Tryz.results27,go_sem,c0,c1,c2,c3,c4,c5,c6,c7,c8]) rfl ⟨_,_,rfl,HFn.out.1,HFn.out.2⟩
set_option linter.unusedSimpArgs false in
set_option maxHeartbeats 8000000 in
set_option maxRecDepth 4000 in
theorem specDoOp {S T S' T':Nat→Prop} {w:World} {y z u v:Value} (r o:Rf) (hy:RdI S w y r.sn) (hz:RdJ T w z r.lg) (hcp:capE z) (hu:RdI S' w u o.sn) (hv:RdJ T' w v o.lg) (hcv:capE v):
  Calls Tryz.prog 8 #[.agg #[.int .i64 r.tm,.int .i64 r.vt,.int .i64 r.si,.int .i64 r.st,y,z],.agg #[.int .i64 o.tm,.int .i64 o.vt,.int .i64 o.si,.int .i64 o.st,u,v]] w (EndsO8 (doC r o) (doY r o) (doV r o) (doR r o).tm (doR r o).vt (doR r o).si (doR r o).st (doR r o).sn (doR r o).lg w):=by
 obtain ⟨ay,cy,rfl⟩:=hy.shape
 obtain ⟨az,cz,rfl,_⟩:=hz.shape
 obtain ⟨au,cu,rfl⟩:=hu.shape
 obtain ⟨av,cv,rfl,_⟩:=hv.shape
 have HBad:=hide (@do_bad r o)
 have HOp:=hide (@do_op r o)
 have HOk:=hide (@do_ok r o)
 have HF:=hide (fun (w':World) (hb:Below w.heap.size w w') (h6:Var6 w' w.heap.size (.int .i64 r.tm) (.int .i64 r.vt) (.int .i64 r.si) (.int .i64 r.st) (.slice ay r.sn.length cy) (.slice az r.lg.length cz))=>l10Fault r h6 (hy.later hb) (hz.later hb))
 have HG:=hide (fun (w':World) (hb:Below w.heap.size w w') (h6:Var6 w' (w.heap.size+1) (.int .i64 o.tm) (.int .i64 o.vt) (.int .i64 o.si) (.int .i64 o.st) (.slice au o.sn.length cu) (.slice av o.lg.length cv))=>l12Fault o h6.vat (hu.later hb) (hv.later hb))
 have HD:=hide (fun (h0:rfF r=0) (h1:opF o=0) (w':World) (hb:Below w.heap.size w w') (h6:Var6 w' (w.heap.size+1) (.int .i64 o.tm) (.int .i64 o.vt) (.int .i64 o.si) (.int .i64 o.st) (.slice au o.sn.length cu) (.slice av o.lg.length cv))=>l12DoI r o (tot_of h0) h1 h6.vat (hy.later hb) (hz.later hb) hcp (hu.later hb) (hv.later hb) hcv)
 obtain ⟨C,hC⟩: ∃x,doC r o=x:=⟨_,rfl⟩
 rw [hC] at HBad HOp HOk⊢
 clear hC
 obtain ⟨Y,hY⟩: ∃x,doY r o=x:=⟨_,rfl⟩
 rw [hY] at HBad HOp HOk⊢
 clear hY
 obtain ⟨V,hV⟩: ∃x,doV r o=x:=⟨_,rfl⟩
 rw [hV] at HBad HOp HOk⊢
 clear hV
 obtain ⟨R,hR⟩: ∃x,doR r o=x:=⟨_,rfl⟩
 rw [hR] at HBad HOp HOk⊢
 clear hR
 obtain ⟨Z,hZ⟩: ∃x,rfF r=x:=⟨_,rfl⟩
 obtain ⟨G,hG⟩: ∃x,opF o=x:=⟨_,rfl⟩
 rw [hZ] at HF HBad HOp HOk HD
 rw [hG] at HG HOp HOk HD
 obtain ⟨dc,hdc⟩: ∃x,dyC r o=x:=⟨_,rfl⟩
 rw [hdc] at HOk HD
 clear hdc
 obtain ⟨dv,hdv⟩: ∃x,dyV r o=x:=⟨_,rfl⟩
 rw [hdv] at HOk HD
 clear hdv
 obtain ⟨dr,hdr⟩: ∃x,dyR r o=x:=⟨_,rfl⟩
 rw [hdr] at HOk HD
 clear hdr
 clear hZ hG hy hz hu hv hcp hcv
 generalize r.sn.length=l at*
 generalize r.lg.length=m at*
 generalize o.sn.length=l2 at*
 generalize o.lg.length=m2 at*
 generalize r.tm=a at*
 generalize r.vt=b at*
 generalize r.si=c at*
 generalize r.st=d at*
 generalize o.tm=a2 at*
 generalize o.vt=b2 at*
 generalize o.si=c2 at*
 generalize o.st=d2 at*
 have BA0:=below_on (below_on (below_alloc w (.cells #[.int .i64 a,.int .i64 b,.int .i64 c,.int .i64 d,.slice ay l cy,.slice az m cz] 27)) (below_alloc _ (.cells #[.int .i64 a2,.int .i64 b2,.int .i64 c2,.int .i64 d2,.slice au l2 cu,.slice av m2 cv] 29))) (below_alloc _ (.cells #[.int .i64 0,.int .i64 0,.int .i64 0,.int .i64 0,.int .i64 0,.int .i64 0,.int .i64 0,.slice none 0 0,.slice none 0 0] 33))
 have VR0:=((Var6_new w (.int .i64 a) (.int .i64 b) (.int .i64 c) (.int .i64 d) (.slice ay l cy) (.slice az m cz) 27).later (below_alloc _ (.cells #[.int .i64 a2,.int .i64 b2,.int .i64 c2,.int .i64 d2,.slice au l2 cu,.slice av m2 cv] 29))).later (below_alloc _ (.cells #[.int .i64 0,.int .i64 0,.int .i64 0,.int .i64 0,.int .i64 0,.int .i64 0,.int .i64 0,.slice none 0 0,.slice none 0 0] 33))
 have VO0:=(Var6_new (w.alloc (.cells #[.int .i64 a,.int .i64 b,.int .i64 c,.int .i64 d,.slice ay l cy,.slice az m cz] 27)) (.int .i64 a2) (.int .i64 b2) (.int .i64 c2) (.int .i64 d2) (.slice au l2 cu) (.slice av m2 cv) 29).later (below_alloc _ (.cells #[.int .i64 0,.int .i64 0,.int .i64 0,.int .i64 0,.int .i64 0,.int .i64 0,.int .i64 0,.slice none 0 0,.slice none 0 0] 33))
 rw [World.size_alloc] at VO0
 have RA0:=Res9.new (below_on (below_alloc w (.cells #[.int .i64 a,.int .i64 b,.int .i64 c,.int .i64 d,.slice ay l cy,.slice az m cz] 27)) (below_alloc _ (.cells #[.int .i64 a2,.int .i64 b2,.int .i64 c2,.int .i64 d2,.slice au l2 cu,.slice av m2 cv] 29))) 33
 rw [World.size_alloc,World.size_alloc] at RA0
 obtain ⟨W3,hW3⟩: ∃x,(((w.alloc (.cells #[.int .i64 a,.int .i64 b,.int .i64 c,.int .i64 d,.slice ay l cy,.slice az m cz] 27)).alloc (.cells #[.int .i64 a2,.int .i64 b2,.int .i64 c2,.int .i64 d2,.slice au l2 cu,.slice av m2 cv] 29)).alloc (.cells #[.int .i64 0,.int .i64 0,.int .i64 0,.int .i64 0,.int .i64 0,.int .i64 0,.int .i64 0,.slice none 0 0,.slice none 0 0] 33))=x:=⟨_,rfl⟩
 rw [hW3] at BA0 VR0 VO0 RA0
 have BA:=hide BA0
 have VA:=hide VR0
 have OA:=hide VO0
 have RA:=hide RA0
 clear BA0 VR0 VO0 RA0
 go_enter Tryz.func8,Tryz.ntmps8
 go_upto_region 1 with fail
 (try rw [hW3])
 clear hW3
 obtain ⟨v0,v1,v2,v3,v4,v5⟩:=VA.out
 obtain ⟨p0,p1,p2,p3,p4,p5⟩:=OA.out
 have HE:=hide (HF.out _ BA.out VA.out)
 go_wp2_with fail
 refine HE.out.mono ?_
 rintro e w1 ⟨rfl,hb⟩
 have VB:=hide (VA.out.later hb)
 have OB:=hide (OA.out.later hb)
 have RB:=hide (RA.out.later hb)
 have BB:=hide (below_on BA.out hb)
 have hzw1:=hb.size
 clear v0 v1 v2 v3 v4 v5 p0 p1 p2 p3 p4 p5 HE VA OA RA BA
 have VA:=VB
 have OA:=OB
 have RA:=RB
 have BA:=BB
 clear VB OB RB BB
 by_cases h0:Z=0
 ·subst h0
  clear hb
  obtain ⟨v0,v1,v2,v3,v4,v5⟩:=VA.out
  obtain ⟨p0,p1,p2,p3,p4,p5⟩:=OA.out
  have HE:=hide (HG.out _ BA.out OA.out)
  go_wp2_with fail
  refine HE.out.mono ?_
  rintro e w2 ⟨rfl,hb⟩
  have VB:=hide (VA.out.later hb)
  have OB:=hide (OA.out.later hb)
  have RB:=hide (RA.out.later hb)
  have BB:=hide (below_on BA.out hb)
  have hzw2:=hb.size
  clear v0 v1 v2 v3 v4 v5 p0 p1 p2 p3 p4 p5 HE VA OA RA BA
  have VA:=VB
  have OA:=OB
  have RA:=RB
  have BA:=BB
  clear VB OB RB BB
  by_cases h1:G=0
  ·subst h1
   clear hb
   obtain ⟨rfl,rfl,rfl,rfl⟩:=HOk.out (by first | trivial | rfl) (by first | trivial | rfl)
   have hr2:=RA.out.lt
   obtain ⟨v0,v1,v2,v3,v4,v5⟩:=VA.out
   obtain ⟨p0,p1,p2,p3,p4,p5⟩:=OA.out
   have HE:=hide (HD.out (by first | trivial | rfl) (by first | trivial | rfl) _ BA.out OA.out)
   go_wp2_with fail
   refine HE.out.mono ?_
   rintro e w3 ⟨y3,z3,rfl,hb,ho⟩
   have VB:=hide (VA.out.later hb)
   have OB:=hide (OA.out.later hb)
   have RB:=hide (RA.out.later hb)
   have BB:=hide (below_on BA.out hb)
   have hzw3:=hb.size
   clear v0 v1 v2 v3 v4 v5 p0 p1 p2 p3 p4 p5 HE VA OA RA BA
   have VA:=VB
   have OA:=OB
   have RA:=RB
   have BA:=BB
   clear VB OB RB BB
   obtain ⟨a3,k3,g3,j3,hy3,hz3⟩:=ho.shape
   subst hy3
   subst hz3
   skip
   have HFn:=hide (ret_op (w:=w) (r:=w.heap.size+2) (x0:=.int .i64 0) (x1:=.int .i64 Y) (x2:=.int .i64 V) (x3:=.int .i64 R.tm) (x4:=.int .i64 R.vt) (x5:=.int .i64 R.si) (x6:=.int .i64 R.st) RA.out.below RA.out.ge ho (by omega))
   clear ho hb
   obtain ⟨_,⟨c0,c1,c2,c3,c4,c5,c6,c7,c8⟩,F,_⟩:=RA.out
   have f0:=F 0
   have f1:=F 1
   have f2:=F 2
   have f3:=F 3
   have f4:=F 4
   have f5:=F 5
   have f6:=F 6
   have f7:=F 7
   have f8:=F 8
   clear F
   go_wp2
   refine bodyPost_ret (v:=.agg #[.int .i64 0,.int .i64 Y,.int .i64 V,.int .i64 R.tm,.int .i64 R.vt,.int .i64 R.si,.int .i64 R.st,.slice a3 R.sn.length k3,.slice g3 R.lg.length j3]) (by simp [results,Tryz.results8,go_sem,c0,c1,c2,c3,c4,c5,c6,c7,c8]) rfl ⟨_,_,rfl,HFn.out.1,HFn.out.2⟩
  ·have h1b:(G==0)=false:=by simpa using h1
   have h1c:(G !=0)=true:=by simp [h1]
   obtain ⟨rfl,rfl,rfl,rfl⟩:=HOp.out (by first | trivial | rfl) h1
   clear h1
   clear hb
   have HFn:=hide (ret_op (w:=w) (r:=w.heap.size+2) (x0:=.int .i64 C) (x1:=.int .i64 0) (x2:=.int .i64 0) (x3:=.int .i64 0) (x4:=.int .i64 0) (x5:=.int .i64 0) (x6:=.int .i64 0) RA.out.below RA.out.ge (IvR_nil (w.heap.size+3) w2) (by omega))
   obtain ⟨_,⟨c0,c1,c2,c3,c4,c5,c6,c7,c8⟩,F,_⟩:=RA.out
   have f0:=F 0
   have f1:=F 1
   have f2:=F 2
   have f3:=F 3
   have f4:=F 4
   have f5:=F 5
   have f6:=F 6
   have f7:=F 7
   have f8:=F 8
   clear F
   go_wp2
   refine bodyPost_ret (v:=.agg #[.int .i64 C,.int .i64 0,.int .i64 0,.int .i64 0,.int .i64 0,.int .i64 0,.int .i64 0,.slice none 0 0,.slice none 0 0]) (by simp [results,Tryz.results8,go_sem,c0,c1,c2,c3,c4,c5,c6,c7,c8]) rfl ⟨_,_,rfl,HFn.out.1,HFn.out.2⟩
 ·have h0b:(Z==0)=false:=by simpa using h0
  have h0c:(Z !=0)=true:=by simp [h0]
  obtain ⟨rfl,rfl,rfl,rfl⟩:=HBad.out h0
  clear h0
  clear hb
  have HFn:=hide (ret_op (w:=w) (r:=w.heap.size+2) (x0:=.int .i64 C) (x1:=.int .i64 0) (x2:=.int .i64 0) (x3:=.int .i64 0) (x4:=.int .i64 0) (x5:=.int .i64 0) (x6:=.int .i64 0) RA.out.below RA.out.ge (IvR_nil (w.heap.size+3) w1) (by omega))
  obtain ⟨_,⟨c0,c1,c2,c3,c4,c5,c6,c7,c8⟩,F,_⟩:=RA.out
  have f0:=F 0
  have f1:=F 1
  have f2:=F 2
  have f3:=F 3
  have f4:=F 4
  have f5:=F 5
  have f6:=F 6
  have f7:=F 7
  have f8:=F 8
  clear F
  go_wp2
  refine bodyPost_ret (v:=.agg #[.int .i64 C,.int .i64 0,.int .i64 0,.int .i64 0,.int .i64 0,.int .i64 0,.int .i64 0,.slice none 0 0,.slice none 0 0]) (by simp [results,Tryz.results8,go_sem,c0,c1,c2,c3,c4,c5,c6,c7,c8]) rfl ⟨_,_,rfl,HFn.out.1,HFn.out.2⟩
end Go.Proofs.YtlliggfggadidaaGreatDoor
