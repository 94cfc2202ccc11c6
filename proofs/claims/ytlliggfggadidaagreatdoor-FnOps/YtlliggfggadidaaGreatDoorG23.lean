/- Rg1 in one text: what each says stands at its head below. -/
import Derived.Test.YtlliggfggadidaaGreatDoorG09
import Derived.Test.YtlliggfggadidaaGreatDoorG10
import Derived.Test.YtlliggfggadidaaGreatDoorG14
import Derived.Test.YtlliggfggadidaaGreatDoorG16
import Derived.Test.YtlliggfggadidaaGreatDoorG20
import Derived.Test.YtlliggfggadidaaGreatDoorG12
import Derived.Test.YtlliggfggadidaaGreatDoorG22
import Derived.Test.YtlliggfggadidaaGreatDoorG01
import Derived.Deep.CutBlock
namespace Go.Proofs.YtlliggfggadidaaGreatDoor
open Go.RowKit
theorem rf_first {p:Int} (h0:0≤p) (h1:p<4):rfF ⟨p,0,0,0,[],[]⟩=0:=
 rfF_iff.2 ⟨⟨⟨⟨h0,by show p≤999;omega⟩,by show (0:Int)≤0∧(0:Int)≤9;omega⟩,by show (0:Int)≤0∧(0:Int)≤9999;omega,by show (0:Int)≤0;omega,h0⟩,(show daF []=0 by decide),⟨⟨fun _=>rfl,fun _=>rfl⟩,fun _=>rfl⟩,logF_iff.2 ⟨Nat.zero_le _,fun _ hi=>absurd hi (Nat.not_lt_zero _),fun _ hi=>absurd hi (Nat.not_lt_zero _)⟩,fun hne=>absurd rfl hne⟩
theorem EoRow.capR {P:Nat→Prop} {w:World} {v:Value} {k:Nat} {gs:List Oj} (h:EoRow P w v k gs):capE v:=by
 obtain ⟨V,h1,_⟩:=h
 rcases h1.2 with ⟨rfl,e⟩ | ⟨g,cap,cur,rfl,_,_,hc,_⟩
 ·exact Nat.le_refl 0
 ·exact hc
theorem tmV_bd {r:Rf} {i:Int} (h:rfF r=0):tmV r i≤999:=by
 have h1:=rfF_iff.1 h
 obtain ⟨⟨⟨a1,a2⟩,_⟩,_,b1,b2⟩:=h1.rg
 unfold tmV
 by_cases hc:tmC r i=0
 ·rw [if_pos hc]
  by_cases hi:i=r.si
  ·rw [if_pos hi];omega
  ·rw [if_neg hi]
   have hlt:(i - r.si - 1).toNat<r.lg.length:=by
    unfold tmC at hc
    by_cases k1:i<r.si
    ·rw [if_pos k1] at hc;exact absurd hc (by decide)
    ·rw [if_neg k1] at hc
     by_cases k2:lastR r<i
     ·rw [if_pos k2] at hc;exact absurd hc (by decide)
     ·unfold lastR at k2;omega
   have:=(entF_zero ((logF_iff.1 h1.lo).2.1 _ hlt)).1.2
   omega
 ·rw [if_neg hc];omega
theorem ap_rf2 {r:Rf} {i t:Int} {l:List Oj} (h:apRC r i t l=0):rfF (apRR r i t l)=0:=by
 unfold apRR
 rw [if_pos h]
 exact (ap_rf (ap_ok_iff.1 h)).1
theorem getD_memR {gs:List Oj} {i:Nat} (h:i<gs.length):gs.getD i oj0∈gs:=by
 have e:gs.getD i oj0=gs[i]:=by simp [List.getD,h]
 rw [e]
 exact List.getElem_mem h
theorem l1Max_any (a b:Int) (w:World):
  Calls Tryz.prog 49 #[.int .i64 a,.int .i64 b] w fun e w'=>e=.returned (.int .i64 (if b<a then a else b))∧w'=w:=by
 by_cases h:b<a
 ·rw [if_pos h]
  go_enter Tryz.func49,Tryz.ntmps49
  go_wp2
  go_ret
  exact ⟨rfl,rfl⟩
 ·rw [if_neg h]
  go_enter Tryz.func49,Tryz.ntmps49
  go_wp2
  go_ret
  exact ⟨rfl,rfl⟩
theorem set7_otherG {w:World} {b h o:Nat} {x0 x1 x2 x3 x4 x5 x6:Value} (hb:b≠h):(((((((w.setCell ⟨h,0,none⟩ x0).setCell ⟨h,1,none⟩ x1).setCell ⟨h,2,none⟩ x2).setCell ⟨h,3,none⟩ x3).setCell ⟨h,4,none⟩ x4).setCell ⟨h,5,none⟩ x5).setCell ⟨h,6,none⟩ x6).cell? ⟨b,o,none⟩=w.cell? ⟨b,o,none⟩:=by
 rw [World.cell?_setCell_other _ _ _ _ (by intro e;injection e with e1 _;exact hb e1.symm),World.cell?_setCell_other _ _ _ _ (by intro e;injection e with e1 _;exact hb e1.symm),World.cell?_setCell_other _ _ _ _ (by intro e;injection e with e1 _;exact hb e1.symm),World.cell?_setCell_other _ _ _ _ (by intro e;injection e with e1 _;exact hb e1.symm),World.cell?_setCell_other _ _ _ _ (by intro e;injection e with e1 _;exact hb e1.symm),World.cell?_setCell_other _ _ _ _ (by intro e;injection e with e1 _;exact hb e1.symm),World.cell?_setCell_other _ _ _ _ (by intro e;injection e with e1 _;exact hb e1.symm)]
set_option linter.unusedSimpArgs false in
set_option maxHeartbeats 4000000 in
set_option maxRecDepth 4000 in
theorem l10Right {s:Nat} {v:Value} {bs:List Nat} {w:World} {t:Nat} (hS:Src s v bs w t) (ht:t≤500000000):
  Calls Tryz.prog 20 #[.pointer (some ⟨s,0,none⟩)] w fun e w'=> ∃(Q:Rf) (y z:Value),e=.returned (.agg #[.int .i64 Q.tm,.int .i64 Q.vt,.int .i64 Q.si,.int .i64 Q.st,y,z])∧rfF Q=0∧IvR w.heap.size w'.heap.size w' y z Q.sn Q.lg∧ ∃t',Drawn 2000 s v bs t t' w w':=by
 have HS:=hide hS
 have hsl:=hS.lt
 clear hS
 have D0:=hide ((Drawn.refl HS.out).later (below_alloc w (.cells #[.int .i64 0,.int .i64 0,.int .i64 0,.int .i64 0,.slice none 0 0,.slice none 0 0] 27)))
 have R0:=hide (Var6_new w (.int .i64 0) (.int .i64 0) (.int .i64 0) (.int .i64 0) (.slice none 0 0) (.slice none 0 0) 27)
 have F0:Hid (∀o,(w.alloc (.cells #[.int .i64 0,.int .i64 0,.int .i64 0,.int .i64 0,.slice none 0 0,.slice none 0 0] 27)).frozen? ⟨w.heap.size,o,none⟩=false):=fun o=>by simp [go_sem]
 have hs0:(w.alloc (.cells #[.int .i64 0,.int .i64 0,.int .i64 0,.int .i64 0,.slice none 0 0,.slice none 0 0] 27)).heap.size=w.heap.size+1:=by simp
 obtain ⟨W0,hW0⟩: ∃x,w.alloc (.cells #[.int .i64 0,.int .i64 0,.int .i64 0,.int .i64 0,.slice none 0 0,.slice none 0 0] 27)=x:=⟨_,rfl⟩
 rw [hW0] at D0 R0 F0 hs0
 go_enter Tryz.func20,Tryz.ntmps20
 go_upto_region 1 with fail
 (try rw [hW0])
 clear hW0
 go_wp2_with fail
 refine (l1Next 4 D0.out.1 (by omega) (by omega) (by omega)).mono ?_
 rintro e w1 ⟨p,rfl,p0,p1,t1,hd1⟩
 have p2:=p1 (by omega)
 have hb1:=below_alloc w1 (.cells #[.int .i64 p,.int .i64 0,.int .i64 0,.int .i64 0,.slice none 0 0,.slice none 0 0] 27)
 have hsz1:=hd1.2.1.size
 have D1:=hide ((D0.out.on hd1).later hb1)
 have R1:=hide ((R0.out.wr hd1.2.1 (by show ¬ w.heap.size=s;omega)).later hb1)
 have F1:Hid (∀o,(w1.alloc (.cells #[.int .i64 p,.int .i64 0,.int .i64 0,.int .i64 0,.slice none 0 0,.slice none 0 0] 27)).frozen? ⟨w.heap.size,o,none⟩=false):=fun o=>((bcell hb1).2 _ _ (by omega)).trans ((hd1.2.1.frz _ _ (by omega)).trans (F0.out o))
 have A1:=hide (Var6_new w1 (.int .i64 p) (.int .i64 0) (.int .i64 0) (.int .i64 0) (.slice none 0 0) (.slice none 0 0) 27)
 have G1:Hid (∀o,(w1.alloc (.cells #[.int .i64 p,.int .i64 0,.int .i64 0,.int .i64 0,.slice none 0 0,.slice none 0 0] 27)).frozen? ⟨w1.heap.size,o,none⟩=false):=fun o=>by simp [go_sem]
 have hs1:(w1.alloc (.cells #[.int .i64 p,.int .i64 0,.int .i64 0,.int .i64 0,.slice none 0 0,.slice none 0 0] 27)).heap.size=w1.heap.size+1:=by simp
 clear hd1 D0 R0 F0 p1
 go_upto_region 2 with fail
 obtain ⟨W1,hW1⟩: ∃x,w1.alloc (.cells #[.int .i64 p,.int .i64 0,.int .i64 0,.int .i64 0,.slice none 0 0,.slice none 0 0] 27)=x:=⟨_,rfl⟩
 rw [hW1] at D1 R1 F1 A1 G1 hs1
 (try rw [hW1])
 clear hb1 hW1
 obtain ⟨RR,hRR⟩: ∃x,w1.heap.size=x:=⟨_,rfl⟩
 rw [hRR] at A1 G1 hs1 hsz1
 (try rw [hRR])
 clear hRR
 have I1:Hid (RgI w s v bs t (0+1) RR ⟨p,0,0,0,[],[]⟩ (.slice none 0 0) (.slice none 0 0) t1 W1):=⟨D1.out,R1.out,F1.out,A1.out,G1.out,⟨RR+1,W1.heap.size,by omega,Nat.le_refl _,Or.inr (Nat.lt_succ_self _),IvR_nil _ _⟩,by omega,hsl⟩
 clear D1 R1 F1 A1 G1
 go_wp2_with fail
 refine (l1Next 12 I1.out.dr.1 (by have:=I1.out.dr.2.2;omega) (by omega) (by omega)).mono ?_
 rintro e w2 ⟨m0,rfl,m1,m2,t2,hd2⟩
 obtain ⟨m,rfl⟩:=Int.eq_ofNat_of_zero_le m1
 have hm:m<12:=by have:=m2 (by omega);omega
 have I2:=hide (I1.out.on hd2)
 have Q0:=hide (rf_first p0 p2)
 clear hd2 I1 m1 m2 hs1 hsz1 hs0
 go_wp2
 go_loopw [4] (fun k wr=> ∃(K:Nat) (Q:Rf) (y z:Value) (t5:Nat),K≤m∧k=.int .i64 (K:Int)∧Hid (RgI w s v bs t (2+140*(m - K)) RR Q y z t5 wr)∧Hid (rfF Q=0)) (fun k _=>(RowKit.intOf k).toNat)
 case atStart=>exact ⟨m,_,_,_,t2,Nat.le_refl _,rfl,I2.out.mono (by omega),Q0.out⟩
 case round=>
  clear I2 Q0 p0 p2
  obtain ⟨K,Q,y,z,t5,hK,rfl,HI,HQ⟩:=hrel
  by_cases hK0:0<K
  ·skip
   obtain ⟨n1,n2,n3,n4,n5,n6⟩:=rf_nums HQ.out
   obtain ⟨lo,hi,lo1,lo2,lo3,iv⟩:=HI.out.mem
   obtain ⟨ay,cy,az,cz,ey,ez⟩:=iv.shape
   subst ey
   subst ez
   have IV:=hide iv
   clear iv
   have HV:=hide HI.out.var
   have h5b:=HI.out.dr.2.2
   go_wp2_with fail
   refine (l10LastI HV.out n3.1 n3.2 n5).mono ?_
   rintro e w3 ⟨rfl,q3,rfl⟩
   have B3:Below wr.heap.size wr (wr.drewN q3):=below_drewN _ _
   have hs3:(wr.drewN q3).heap.size=wr.heap.size:=rfl
   obtain ⟨W3,hW3⟩: ∃x,wr.drewN q3=x:=⟨_,rfl⟩
   rw [hW3] at B3 hs3⊢
   clear hW3
   obtain ⟨la,hla⟩: ∃x,Q.si+(Q.lg.length:Int)=x:=⟨_,rfl⟩
   have hlb:0≤la∧la≤10013:=by omega
   have HLa:=hide hla
   rw [hla]
   clear hla
   have b4:=below_alloc W3 (.cells #[.int .i64 0,.int .i64 0,.int .i64 0,.int .i64 0,.int .i64 0,.slice none 0 0,.slice none 0 0] 79)
   have D4:=hide ((Drawn.refl HI.out.dr.1).later (below_on B3 b4))
   have V4:=hide (Var7_new W3 (.int .i64 0) (.int .i64 0) (.int .i64 0) (.int .i64 0) (.int .i64 0) (.slice none 0 0) (.slice none 0 0) 79)
   have G4:Hid (∀o,(W3.alloc (.cells #[.int .i64 0,.int .i64 0,.int .i64 0,.int .i64 0,.int .i64 0,.slice none 0 0,.slice none 0 0] 79)).frozen? ⟨W3.heap.size,o,none⟩=false):=fun o=>by simp [go_sem]
   have hs4:(W3.alloc (.cells #[.int .i64 0,.int .i64 0,.int .i64 0,.int .i64 0,.int .i64 0,.slice none 0 0,.slice none 0 0] 79)).heap.size=W3.heap.size+1:=by simp
   clear b4 B3
   go_upto_region 7 with fail
   obtain ⟨W4,hW4⟩: ∃x,W3.alloc (.cells #[.int .i64 0,.int .i64 0,.int .i64 0,.int .i64 0,.int .i64 0,.slice none 0 0,.slice none 0 0] 79)=x:=⟨_,rfl⟩
   rw [hW4] at D4 V4 G4 hs4
   (try rw [hW4])
   clear hW4
   rw [hs3] at V4 G4 hs4
   (try rw [hs3])
   go_wp2_with fail
   refine (l1Next 7 D4.out.1 (by omega) (by omega) (by omega)).mono ?_
   rintro e w5 ⟨c,rfl,c0,c1,t6,hd5⟩
   have hsr:=HI.out.old
   have hRl:=HI.out.lt
   have hgR:=HI.out.ge
   have D5:=hide (D4.out.on hd5)
   have V5:=hide (V4.out.wr hd5.2.1 (by show ¬ wr.heap.size=s;omega))
   have G5:Hid (∀o,w5.frozen? ⟨wr.heap.size,o,none⟩=false):=fun o=>(hd5.2.1.frz _ _ (by omega)).trans (G4.out o)
   have hs5:=hd5.2.1.size
   clear hd5 D4 V4 G4
   go_upto_block 2 with fail
   go_cut [7,8,9] from 23 to 87 (fun _ _ _ wx=> ∃(code:Int) (X:Rf) (yx zx:Value) (t7:Nat),Hid (Drawn 130 s v bs t5 t7 wr wx)∧Hid (Var7 wx wr.heap.size (.int .i64 code) (.int .i64 X.tm) (.int .i64 X.vt) (.int .i64 X.si) (.int .i64 X.st) (yx) (zx))∧Hid (∃lo hi,wr.heap.size<lo∧hi≤wx.heap.size∧IvR lo hi wx yx zx X.sn X.lg)∧Hid (code=0→rfF X=0))
   case first=>
    go_upto_if 52 with fail
    by_cases hc0:c=0
    ·subst hc0
     have VR5:=hide (HV.out.wr D5.out.2.1 (by show ¬ RR=s;omega))
     have IR5:=hide (IV.out.wr D5.out.2.1 (fun b k1 k2 e=>by have e:b=s:=e;omega))
     have hz5:wr.heap.size<w5.heap.size:=V5.out.lt
     obtain ⟨g0,g1,g2,g3,g4,g5⟩:=VR5.out
     go_upto_region 12 with fail
     refine wp_region_held_drew (S:=fun w'=>w'.cell? ⟨RR,0,none⟩=some (.int .i64 Q.tm)∧w'.cell? ⟨RR,1,none⟩=some (.int .i64 Q.vt)∧w'.cell? ⟨RR,2,none⟩=some (.int .i64 Q.si)∧w'.cell? ⟨RR,3,none⟩=some (.int .i64 Q.st)∧w'.cell? ⟨RR,4,none⟩=some (.slice ay Q.sn.length cy)∧w'.cell? ⟨RR,5,none⟩=some (.slice az Q.lg.length cz)) (by kernel_rfl) ⟨g0,g1,g2,g3,g4,g5⟩ (fun hHeld0=>?_)
     refine forgetH (fun wx=>(wx.cell? ⟨RR,0,none⟩=some (.int .i64 Q.tm)∧wx.cell? ⟨RR,1,none⟩=some (.int .i64 Q.vt)∧wx.cell? ⟨RR,2,none⟩=some (.int .i64 Q.si)∧wx.cell? ⟨RR,3,none⟩=some (.int .i64 Q.st)∧wx.cell? ⟨RR,4,none⟩=some (.slice ay Q.sn.length cy)∧wx.cell? ⟨RR,5,none⟩=some (.slice az Q.lg.length cz))∧Below w5.heap.size w5 wx) ⟨hHeld0,below_drewN w5 1⟩ ?_
     clear hHeld0 g0 g1 g2 g3 g4 g5
     rintro Y0 ⟨hHeld,hbx⟩
     have D6:=hide (D5.out.later hbx)
     have V6:=hide (V5.out.later hbx)
     have G6:Hid (∀o,Y0.frozen? ⟨wr.heap.size,o,none⟩=false):=fun o=>((bcell hbx).2 _ _ V5.out.lt).trans (G5.out o)
     have VR6:=hide (VR5.out.later hbx)
     have IR6:=hide (IR5.out.later hbx)
     have hz6:=hbx.size
     clear D5 V5 G5 VR5 IR5
     clear hbx
     refine wpAnyH_take (i:=0) (v:=?vt1x0) rfl (by kernel_rfl) (by kernel_rfl) (by kernel_rfl) (fun _ _ _ h=>h) (Or.inl ⟨by rfl,?ht1x0⟩) hHeld ?rt1x0
     case ht1x0=>intro w9 hSw;(try dsimp only at hSw);first | (go_simp;done) | (go_simp;with_reducible rfl)
     try simp only [Act.put,List.setIfInBounds_toArray,List.set_cons_zero,List.set_cons_succ,List.getElem_toArray,List.getElem_cons_zero]
     refine wpAnyH_take (i:=1) (v:=?vt2x1) rfl (by kernel_rfl) (by kernel_rfl) (by kernel_rfl) (fun _ _ _ h=>h) (Or.inl ⟨by rfl,?ht2x1⟩) hHeld ?rt2x1
     case ht2x1=>intro w9 hSw;(try dsimp only at hSw);first | (go_simp;done) | (go_simp;with_reducible rfl)
     try simp only [Act.put,List.setIfInBounds_toArray,List.set_cons_zero,List.set_cons_succ,List.getElem_toArray,List.getElem_cons_zero,List.getElem_cons_succ]
     refine wpAnyH_take (i:=2) (v:=?vt3x2) rfl (by kernel_rfl) (by kernel_rfl) (by kernel_rfl) (fun _ _ _ h=>h) (Or.inl ⟨by rfl,?ht3x2⟩) hHeld ?rt3x2
     case ht3x2=>intro w9 hSw;(try dsimp only at hSw);first | (go_simp;done) | (go_simp;with_reducible rfl)
     try simp only [Act.put,List.setIfInBounds_toArray,List.set_cons_zero,List.set_cons_succ,List.getElem_toArray,List.getElem_cons_zero,List.getElem_cons_succ]
     refine wpAnyH_take (i:=3) (v:=?vt4x3) rfl (by kernel_rfl) (by kernel_rfl) (by kernel_rfl) (fun _ _ _ h=>h) (Or.inl ⟨by rfl,?ht4x3⟩) hHeld ?rt4x3
     case ht4x3=>intro w9 hSw;(try dsimp only at hSw);first | (go_simp;done) | (go_simp;with_reducible rfl)
     try simp only [Act.put,List.setIfInBounds_toArray,List.set_cons_zero,List.set_cons_succ,List.getElem_toArray,List.getElem_cons_zero,List.getElem_cons_succ]
     refine wpAnyH_take (i:=6) (v:=?vt5x6) rfl (by kernel_rfl) (by kernel_rfl) (by kernel_rfl) (fun _ _ _ h=>h) (Or.inl ⟨by rfl,?ht5x6⟩) hHeld ?rt5x6
     case ht5x6=>intro w9 hSw;(try dsimp only at hSw);first | (go_simp;done) | (go_simp;with_reducible rfl)
     try simp only [Act.put,List.setIfInBounds_toArray,List.set_cons_zero,List.set_cons_succ,List.getElem_toArray,List.getElem_cons_zero,List.getElem_cons_succ]
     refine wpAnyH_ready (rs:=[4]) (by kernel_rfl) (by simp) (AllReadyH.cons rfl (fun K hK=>?_) AllReadyH.nil)
     go_simp
     go_at_call 40
     have hdt:=D6.out.2.2
     refine (l1Next 2 D6.out.1 (by omega) (by omega) (by omega)).mono ?_
     rintro e Y7 ⟨p,rfl,p0,p1,t7,hd7⟩
     have p2:=p1 (by omega)
     clear p1 hdt
     have D7:=hide (D6.out.on hd7)
     have V7:=hide (V6.out.wr hd7.2.1 (by show ¬ wr.heap.size=s;omega))
     have G7:Hid (∀o,Y7.frozen? ⟨wr.heap.size,o,none⟩=false):=fun o=>(hd7.2.1.frz _ _ V6.out.lt).trans (G6.out o)
     have VR7:=hide (VR6.out.wr hd7.2.1 (by show ¬ RR=s;omega))
     have IR7:=hide (IR6.out.wr hd7.2.1 (fun b k1 k2 e=>by have e:b=s:=e;omega))
     have hz7:=hd7.2.1.size
     clear D6 V6 G6 VR6 IR6
     clear hd7 hHeld
     refine hK.out _ _ VR7.out (fun hHeld=>?_)
     clear hK K
     try simp only [Act.put,List.setIfInBounds_toArray,List.set_cons_zero,List.set_cons_succ,List.getElem_toArray,List.getElem_cons_zero,List.getElem_cons_succ]
     refine wpAnyH_take (i:=5) (v:=?vt6x5) rfl (by kernel_rfl) (by kernel_rfl) (by kernel_rfl) (fun _ _ _ h=>h) (Or.inl ⟨by rfl,?ht6x5⟩) hHeld ?rt6x5
     case ht6x5=>intro w9 hSw;(try dsimp only at hSw);first | (go_simp;done) | (go_simp;with_reducible rfl)
     try simp only [Act.put,List.setIfInBounds_toArray,List.set_cons_zero,List.set_cons_succ,List.getElem_toArray,List.getElem_cons_zero,List.getElem_cons_succ]
     have ew:IntKind.i64.wrap (Q.tm+p)=Q.tm+p:=by simp [IntKind.wrap,IntKind.bits,IntKind.signed];omega
     rw [ew]
     clear ew
     refine wpAnyH_ready (rs:=[7]) (by kernel_rfl) (by simp) (AllReadyH.cons rfl (fun K hK=>?_) AllReadyH.nil)
     go_simp
     go_at_call 40
     have hdt:=D7.out.2.2
     refine (l1Next 4 D7.out.1 (by omega) (by omega) (by omega)).mono ?_
     rintro e Y8 ⟨q,rfl,q0,q1,t8,hd8⟩
     have q2:=q1 (by omega)
     clear q1 hdt
     have D8:=hide (D7.out.on hd8)
     have V8:=hide (V7.out.wr hd8.2.1 (by show ¬ wr.heap.size=s;omega))
     have G8:Hid (∀o,Y8.frozen? ⟨wr.heap.size,o,none⟩=false):=fun o=>(hd8.2.1.frz _ _ V7.out.lt).trans (G7.out o)
     have VR8:=hide (VR7.out.wr hd8.2.1 (by show ¬ RR=s;omega))
     have IR8:=hide (IR7.out.wr hd8.2.1 (fun b k1 k2 e=>by have e:b=s:=e;omega))
     have hz8:=hd8.2.1.size
     clear D7 V7 G7 VR7 IR7
     clear hd8 hHeld
     refine hK.out _ _ VR8.out (fun hHeld=>?_)
     clear hK K
     try simp only [Act.put,List.setIfInBounds_toArray,List.set_cons_zero,List.set_cons_succ,List.getElem_toArray,List.getElem_cons_zero,List.getElem_cons_succ]
     obtain ⟨C,hC⟩: ∃C,shC Q (Q.tm+p) q=C:=⟨_,rfl⟩
     obtain ⟨X,hX⟩: ∃X,shR Q (Q.tm+p) q=X:=⟨_,rfl⟩
     have HF:=hide (fun h:C=0=>hX▸sh_rf (hC.trans h))
     have HS8:=hide (specSetHard Q (Q.tm+p) q IR8.out.rdI IR8.out.rdJ)
     rw [hC,hX] at HS8
     clear hC hX
     refine wpAnyH_ready (rs:=[8]) (by kernel_rfl) (by simp) (AllReadyH.cons rfl (fun K hK=>?_) AllReadyH.nil)
     go_simp
     go_at_call 45
     refine (HS8.out).mono ?_
     rintro e X1 ⟨y1,z1,rfl,hb,ho⟩
     obtain ⟨aX,kX,gX,jX,rfl,rfl⟩:=ho.shape
     have hlo:wr.heap.size<Y8.heap.size:=V8.out.lt
     have D9:=hide (D8.out.later hb)
     have V9:=hide (V8.out.later hb)
     have G9:Hid (∀o,X1.frozen? ⟨wr.heap.size,o,none⟩=false):=fun o=>((bcell hb).2 _ _ V8.out.lt).trans (G8.out o)
     have VR9:=hide (VR8.out.later hb)
     have IR9:=hide (IR8.out.later hb)
     have hz9:=hb.size
     clear D8 V8 G8 VR8 IR8
     have HO:=hide ho
     clear ho hb hHeld
     refine hK.out _ _ VR9.out (fun hHeld=>?_)
     clear hK K
     try simp only [Act.put,List.setIfInBounds_toArray,List.set_cons_zero,List.set_cons_succ,List.getElem_toArray,List.getElem_cons_zero,List.getElem_cons_succ]
     obtain ⟨x0,x1,x2,x3,x4,x5,x6⟩:=V9.out
     obtain ⟨g0,g1,g2,g3,g4,g5⟩:=VR9.out
     have e0:=G9.out 0
     have e1:=G9.out 1
     have e2:=G9.out 2
     have e3:=G9.out 3
     have e4:=G9.out 4
     have e5:=G9.out 5
     have e6:=G9.out 6
     have hn0:RR≠wr.heap.size:=by omega
     refine wpAnyH_ready (rs:=[9]) (by kernel_rfl) (by simp) (AllReadyH.cons rfl (fun K hK=>?_) (AllReadyH.nil))
     go_simp
     refine hK.out _ _ ⟨(set7_otherG hn0).trans g0,(set7_otherG hn0).trans g1,(set7_otherG hn0).trans g2,(set7_otherG hn0).trans g3,(set7_otherG hn0).trans g4,(set7_otherG hn0).trans g5⟩ (fun _=>?_)
     clear hK K
     try simp only [Act.put,List.setIfInBounds_toArray,List.set_cons_zero,List.set_cons_succ,List.getElem_toArray,List.getElem_cons_zero,List.getElem_cons_succ]
     refine wpAnyH_done (by kernel_rfl) ?_ _
     refine forgetX (fun W6=>Var7 W6 wr.heap.size (.int .i64 C) (.int .i64 X.tm) (.int .i64 X.vt) (.int .i64 X.si) (.int .i64 X.st) (.slice aX X.sn.length kX) (.slice gX X.lg.length jX)∧(∃lo hi,wr.heap.size<lo∧hi≤W6.heap.size∧IvR lo hi W6 (.slice aX X.sn.length kX) (.slice gX X.lg.length jX) X.sn X.lg)∧ ∃t7,Drawn 130 s v bs t5 t7 wr W6) ?scx ?_
     case scx=>
      have hw6:Wr (fun x=>x=wr.heap.size) X1 (((((((X1.setCell ⟨wr.heap.size,0,none⟩ (.int .i64 C)).setCell ⟨wr.heap.size,1,none⟩ (.int .i64 X.tm)).setCell ⟨wr.heap.size,2,none⟩ (.int .i64 X.vt)).setCell ⟨wr.heap.size,3,none⟩ (.int .i64 X.si)).setCell ⟨wr.heap.size,4,none⟩ (.int .i64 X.st)).setCell ⟨wr.heap.size,5,none⟩ (.slice aX X.sn.length kX)).setCell ⟨wr.heap.size,6,none⟩ (.slice gX X.lg.length jX)):=(Wr.setCell (p:=⟨wr.heap.size,6,none⟩) (Wr.setCell (p:=⟨wr.heap.size,5,none⟩) (Wr.setCell (p:=⟨wr.heap.size,4,none⟩) (Wr.setCell (p:=⟨wr.heap.size,3,none⟩) (Wr.setCell (p:=⟨wr.heap.size,2,none⟩) (Wr.setCell (p:=⟨wr.heap.size,1,none⟩) (Wr.setCell (p:=⟨wr.heap.size,0,none⟩) (Wr.refl (fun x=>x=wr.heap.size) X1) rfl (.int .i64 C)) rfl (.int .i64 X.tm)) rfl (.int .i64 X.vt)) rfl (.int .i64 X.si)) rfl (.int .i64 X.st)) rfl (.slice aX X.sn.length kX)) rfl (.slice gX X.lg.length jX))
      exact ⟨⟨by simp [go_sem,x0],by simp [go_sem,x1],by simp [go_sem,x2],by simp [go_sem,x3],by simp [go_sem,x4],by simp [go_sem,x5],by simp [go_sem,x6]⟩,⟨_,_,hlo,hw6.size,HO.out.wr hw6 (fun b h1 h2 e=>by omega)⟩,_,(Drawn.onBelow HI.out.dr.1 D9.out (hw6.below (by omega) (fun b e=>by omega))).mono (by omega)⟩
     clear x0 x1 x2 x3 x4 x5 x6 e0 e1 e2 e3 e4 e5 e6 g0 g1 g2 g3 g4 g5 hn0 D9 V9 G9 VR9 IR9 HO
     rintro W6 ⟨V8,M8,t8,D8⟩
     have HV8:=hide V8
     have HM8:=hide M8
     have HD8:=hide D8
     clear V8 M8 D8
     go_wp2
     go_meet
     exact ⟨C,X,_,_,t8,HD8,HV8,HM8,HF⟩
    ·skip
     go_upto_if 63 with fail
     by_cases hc1:c=1
     ·subst hc1
      have VR5:=hide (HV.out.wr D5.out.2.1 (by show ¬ RR=s;omega))
      have IR5:=hide (IV.out.wr D5.out.2.1 (fun b k1 k2 e=>by have e:b=s:=e;omega))
      have hz5:wr.heap.size<w5.heap.size:=V5.out.lt
      obtain ⟨g0,g1,g2,g3,g4,g5⟩:=VR5.out
      go_upto_region 14 with fail
      refine wp_region_held_drew (S:=fun w'=>w'.cell? ⟨RR,0,none⟩=some (.int .i64 Q.tm)∧w'.cell? ⟨RR,1,none⟩=some (.int .i64 Q.vt)∧w'.cell? ⟨RR,2,none⟩=some (.int .i64 Q.si)∧w'.cell? ⟨RR,3,none⟩=some (.int .i64 Q.st)∧w'.cell? ⟨RR,4,none⟩=some (.slice ay Q.sn.length cy)∧w'.cell? ⟨RR,5,none⟩=some (.slice az Q.lg.length cz)) (by kernel_rfl) ⟨g0,g1,g2,g3,g4,g5⟩ (fun hHeld0=>?_)
      refine forgetH (fun wx=>(wx.cell? ⟨RR,0,none⟩=some (.int .i64 Q.tm)∧wx.cell? ⟨RR,1,none⟩=some (.int .i64 Q.vt)∧wx.cell? ⟨RR,2,none⟩=some (.int .i64 Q.si)∧wx.cell? ⟨RR,3,none⟩=some (.int .i64 Q.st)∧wx.cell? ⟨RR,4,none⟩=some (.slice ay Q.sn.length cy)∧wx.cell? ⟨RR,5,none⟩=some (.slice az Q.lg.length cz))∧Below w5.heap.size w5 wx) ⟨hHeld0,below_drewN w5 1⟩ ?_
      clear hHeld0 g0 g1 g2 g3 g4 g5
      rintro Y0 ⟨hHeld,hbx⟩
      have D6:=hide (D5.out.later hbx)
      have V6:=hide (V5.out.later hbx)
      have G6:Hid (∀o,Y0.frozen? ⟨wr.heap.size,o,none⟩=false):=fun o=>((bcell hbx).2 _ _ V5.out.lt).trans (G5.out o)
      have VR6:=hide (VR5.out.later hbx)
      have IR6:=hide (IR5.out.later hbx)
      have hz6:=hbx.size
      clear D5 V5 G5 VR5 IR5
      clear hbx
      refine wpAnyH_take (i:=0) (v:=?vt7x0) rfl (by kernel_rfl) (by kernel_rfl) (by kernel_rfl) (fun _ _ _ h=>h) (Or.inl ⟨by rfl,?ht7x0⟩) hHeld ?rt7x0
      case ht7x0=>intro w9 hSw;(try dsimp only at hSw);first | (go_simp;done) | (go_simp;with_reducible rfl)
      try simp only [Act.put,List.setIfInBounds_toArray,List.set_cons_zero,List.set_cons_succ,List.getElem_toArray,List.getElem_cons_zero]
      refine wpAnyH_take (i:=1) (v:=?vt8x1) rfl (by kernel_rfl) (by kernel_rfl) (by kernel_rfl) (fun _ _ _ h=>h) (Or.inl ⟨by rfl,?ht8x1⟩) hHeld ?rt8x1
      case ht8x1=>intro w9 hSw;(try dsimp only at hSw);first | (go_simp;done) | (go_simp;with_reducible rfl)
      try simp only [Act.put,List.setIfInBounds_toArray,List.set_cons_zero,List.set_cons_succ,List.getElem_toArray,List.getElem_cons_zero,List.getElem_cons_succ]
      refine wpAnyH_take (i:=2) (v:=?vt9x2) rfl (by kernel_rfl) (by kernel_rfl) (by kernel_rfl) (fun _ _ _ h=>h) (Or.inl ⟨by rfl,?ht9x2⟩) hHeld ?rt9x2
      case ht9x2=>intro w9 hSw;(try dsimp only at hSw);first | (go_simp;done) | (go_simp;with_reducible rfl)
      try simp only [Act.put,List.setIfInBounds_toArray,List.set_cons_zero,List.set_cons_succ,List.getElem_toArray,List.getElem_cons_zero,List.getElem_cons_succ]
      refine wpAnyH_take (i:=3) (v:=?vt10x3) rfl (by kernel_rfl) (by kernel_rfl) (by kernel_rfl) (fun _ _ _ h=>h) (Or.inl ⟨by rfl,?ht10x3⟩) hHeld ?rt10x3
      case ht10x3=>intro w9 hSw;(try dsimp only at hSw);first | (go_simp;done) | (go_simp;with_reducible rfl)
      try simp only [Act.put,List.setIfInBounds_toArray,List.set_cons_zero,List.set_cons_succ,List.getElem_toArray,List.getElem_cons_zero,List.getElem_cons_succ]
      refine wpAnyH_take (i:=6) (v:=?vt11x6) rfl (by kernel_rfl) (by kernel_rfl) (by kernel_rfl) (fun _ _ _ h=>h) (Or.inl ⟨by rfl,?ht11x6⟩) hHeld ?rt11x6
      case ht11x6=>intro w9 hSw;(try dsimp only at hSw);first | (go_simp;done) | (go_simp;with_reducible rfl)
      try simp only [Act.put,List.setIfInBounds_toArray,List.set_cons_zero,List.set_cons_succ,List.getElem_toArray,List.getElem_cons_zero,List.getElem_cons_succ]
      refine wpAnyH_ready (rs:=[4]) (by kernel_rfl) (by simp) (AllReadyH.cons rfl (fun K hK=>?_) AllReadyH.nil)
      go_simp
      go_at_call 40
      have hdt:=D6.out.2.2
      refine (l1Next 4 D6.out.1 (by omega) (by omega) (by omega)).mono ?_
      rintro e Y7 ⟨p,rfl,p0,p1,t7,hd7⟩
      have p2:=p1 (by omega)
      clear p1 hdt
      have D7:=hide (D6.out.on hd7)
      have V7:=hide (V6.out.wr hd7.2.1 (by show ¬ wr.heap.size=s;omega))
      have G7:Hid (∀o,Y7.frozen? ⟨wr.heap.size,o,none⟩=false):=fun o=>(hd7.2.1.frz _ _ V6.out.lt).trans (G6.out o)
      have VR7:=hide (VR6.out.wr hd7.2.1 (by show ¬ RR=s;omega))
      have IR7:=hide (IR6.out.wr hd7.2.1 (fun b k1 k2 e=>by have e:b=s:=e;omega))
      have hz7:=hd7.2.1.size
      clear D6 V6 G6 VR6 IR6
      clear hd7 hHeld
      refine hK.out _ _ VR7.out (fun hHeld=>?_)
      clear hK K
      try simp only [Act.put,List.setIfInBounds_toArray,List.set_cons_zero,List.set_cons_succ,List.getElem_toArray,List.getElem_cons_zero,List.getElem_cons_succ]
      refine wpAnyH_take (i:=5) (v:=?vt12x5) rfl (by kernel_rfl) (by kernel_rfl) (by kernel_rfl) (fun _ _ _ h=>h) (Or.inl ⟨by rfl,?ht12x5⟩) hHeld ?rt12x5
      case ht12x5=>intro w9 hSw;(try dsimp only at hSw);first | (go_simp;done) | (go_simp;with_reducible rfl)
      try simp only [Act.put,List.setIfInBounds_toArray,List.set_cons_zero,List.set_cons_succ,List.getElem_toArray,List.getElem_cons_zero,List.getElem_cons_succ]
      have ew:IntKind.i64.wrap (Q.si+p)=Q.si+p:=by simp [IntKind.wrap,IntKind.bits,IntKind.signed];omega
      rw [ew]
      clear ew
      refine wpAnyH_ready (rs:=[7]) (by kernel_rfl) (by simp) (AllReadyH.cons rfl (fun K hK=>?_) AllReadyH.nil)
      go_simp
      go_at_call 47
      have hdt:=D7.out.2.2
      refine (l10DrawData D7.out.1 (by omega)).mono ?_
      rintro e Y8 ⟨zd,xs,rfl,hxl,hod,t8,hd8⟩
      clear hdt
      have hrd:=hide hod.rd
      obtain ⟨ad,cd,rfl⟩:=hrd.out.shape
      clear hod
      have D8:=hide (D7.out.on hd8)
      have V8:=hide (V7.out.wr hd8.2.1 (by show ¬ wr.heap.size=s;omega))
      have G8:Hid (∀o,Y8.frozen? ⟨wr.heap.size,o,none⟩=false):=fun o=>(hd8.2.1.frz _ _ V7.out.lt).trans (G7.out o)
      have VR8:=hide (VR7.out.wr hd8.2.1 (by show ¬ RR=s;omega))
      have IR8:=hide (IR7.out.wr hd8.2.1 (fun b k1 k2 e=>by have e:b=s:=e;omega))
      have hz8:=hd8.2.1.size
      clear D7 V7 G7 VR7 IR7
      clear hd8 hHeld
      refine hK.out _ _ VR8.out (fun hHeld=>?_)
      clear hK K
      try simp only [Act.put,List.setIfInBounds_toArray,List.set_cons_zero,List.set_cons_succ,List.getElem_toArray,List.getElem_cons_zero,List.getElem_cons_succ]
      obtain ⟨C,hC⟩: ∃C,cpC Q (Q.si+p) xs=C:=⟨_,rfl⟩
      obtain ⟨X,hX⟩: ∃X,cpR Q (Q.si+p) xs=X:=⟨_,rfl⟩
      have HF:=hide (fun h:C=0=>hX▸cp_rf (hC.trans h))
      have HS8:=hide (specCompactRaft Q (Q.si+p) IR8.out.rdI IR8.out.rdJ IR8.out.capE hrd.out)
      rw [hC,hX] at HS8
      clear hC hX
      refine wpAnyH_ready (rs:=[8]) (by kernel_rfl) (by simp) (AllReadyH.cons rfl (fun K hK=>?_) AllReadyH.nil)
      go_simp
      go_at_call 46
      refine (HS8.out).mono ?_
      rintro e X1 ⟨y1,z1,rfl,hb,ho⟩
      obtain ⟨aX,kX,gX,jX,rfl,rfl⟩:=ho.shape
      have hlo:wr.heap.size<Y8.heap.size:=V8.out.lt
      have D9:=hide (D8.out.later hb)
      have V9:=hide (V8.out.later hb)
      have G9:Hid (∀o,X1.frozen? ⟨wr.heap.size,o,none⟩=false):=fun o=>((bcell hb).2 _ _ V8.out.lt).trans (G8.out o)
      have VR9:=hide (VR8.out.later hb)
      have IR9:=hide (IR8.out.later hb)
      have hz9:=hb.size
      clear D8 V8 G8 VR8 IR8
      have HO:=hide ho
      clear ho hb hHeld
      refine hK.out _ _ VR9.out (fun hHeld=>?_)
      clear hK K
      try simp only [Act.put,List.setIfInBounds_toArray,List.set_cons_zero,List.set_cons_succ,List.getElem_toArray,List.getElem_cons_zero,List.getElem_cons_succ]
      obtain ⟨x0,x1,x2,x3,x4,x5,x6⟩:=V9.out
      obtain ⟨g0,g1,g2,g3,g4,g5⟩:=VR9.out
      have e0:=G9.out 0
      have e1:=G9.out 1
      have e2:=G9.out 2
      have e3:=G9.out 3
      have e4:=G9.out 4
      have e5:=G9.out 5
      have e6:=G9.out 6
      have hn0:RR≠wr.heap.size:=by omega
      refine wpAnyH_ready (rs:=[9]) (by kernel_rfl) (by simp) (AllReadyH.cons rfl (fun K hK=>?_) (AllReadyH.nil))
      go_simp
      refine hK.out _ _ ⟨(set7_otherG hn0).trans g0,(set7_otherG hn0).trans g1,(set7_otherG hn0).trans g2,(set7_otherG hn0).trans g3,(set7_otherG hn0).trans g4,(set7_otherG hn0).trans g5⟩ (fun _=>?_)
      clear hK K
      try simp only [Act.put,List.setIfInBounds_toArray,List.set_cons_zero,List.set_cons_succ,List.getElem_toArray,List.getElem_cons_zero,List.getElem_cons_succ]
      refine wpAnyH_done (by kernel_rfl) ?_ _
      refine forgetX (fun W6=>Var7 W6 wr.heap.size (.int .i64 C) (.int .i64 X.tm) (.int .i64 X.vt) (.int .i64 X.si) (.int .i64 X.st) (.slice aX X.sn.length kX) (.slice gX X.lg.length jX)∧(∃lo hi,wr.heap.size<lo∧hi≤W6.heap.size∧IvR lo hi W6 (.slice aX X.sn.length kX) (.slice gX X.lg.length jX) X.sn X.lg)∧ ∃t7,Drawn 130 s v bs t5 t7 wr W6) ?scx ?_
      case scx=>
       have hw6:Wr (fun x=>x=wr.heap.size) X1 (((((((X1.setCell ⟨wr.heap.size,0,none⟩ (.int .i64 C)).setCell ⟨wr.heap.size,1,none⟩ (.int .i64 X.tm)).setCell ⟨wr.heap.size,2,none⟩ (.int .i64 X.vt)).setCell ⟨wr.heap.size,3,none⟩ (.int .i64 X.si)).setCell ⟨wr.heap.size,4,none⟩ (.int .i64 X.st)).setCell ⟨wr.heap.size,5,none⟩ (.slice aX X.sn.length kX)).setCell ⟨wr.heap.size,6,none⟩ (.slice gX X.lg.length jX)):=(Wr.setCell (p:=⟨wr.heap.size,6,none⟩) (Wr.setCell (p:=⟨wr.heap.size,5,none⟩) (Wr.setCell (p:=⟨wr.heap.size,4,none⟩) (Wr.setCell (p:=⟨wr.heap.size,3,none⟩) (Wr.setCell (p:=⟨wr.heap.size,2,none⟩) (Wr.setCell (p:=⟨wr.heap.size,1,none⟩) (Wr.setCell (p:=⟨wr.heap.size,0,none⟩) (Wr.refl (fun x=>x=wr.heap.size) X1) rfl (.int .i64 C)) rfl (.int .i64 X.tm)) rfl (.int .i64 X.vt)) rfl (.int .i64 X.si)) rfl (.int .i64 X.st)) rfl (.slice aX X.sn.length kX)) rfl (.slice gX X.lg.length jX))
       exact ⟨⟨by simp [go_sem,x0],by simp [go_sem,x1],by simp [go_sem,x2],by simp [go_sem,x3],by simp [go_sem,x4],by simp [go_sem,x5],by simp [go_sem,x6]⟩,⟨_,_,hlo,hw6.size,HO.out.wr hw6 (fun b h1 h2 e=>by omega)⟩,_,(Drawn.onBelow HI.out.dr.1 D9.out (hw6.below (by omega) (fun b e=>by omega))).mono (by omega)⟩
      clear x0 x1 x2 x3 x4 x5 x6 e0 e1 e2 e3 e4 e5 e6 g0 g1 g2 g3 g4 g5 hn0 D9 V9 G9 VR9 IR9 HO
      rintro W6 ⟨V8,M8,t8,D8⟩
      have HV8:=hide V8
      have HM8:=hide M8
      have HD8:=hide D8
      clear V8 M8 D8
      go_wp2
      go_meet
      exact ⟨C,X,_,_,t8,HD8,HV8,HM8,HF⟩
     ·skip
      go_upto_if 74 with fail
      by_cases hc2:c=2
      ·subst hc2
       have VR5:=hide (HV.out.wr D5.out.2.1 (by show ¬ RR=s;omega))
       have IR5:=hide (IV.out.wr D5.out.2.1 (fun b k1 k2 e=>by have e:b=s:=e;omega))
       have hz5:wr.heap.size<w5.heap.size:=V5.out.lt
       obtain ⟨g0,g1,g2,g3,g4,g5⟩:=VR5.out
       go_upto_region 16 with fail
       refine wp_region_held_drew (S:=fun w'=>w'.cell? ⟨RR,0,none⟩=some (.int .i64 Q.tm)∧w'.cell? ⟨RR,1,none⟩=some (.int .i64 Q.vt)∧w'.cell? ⟨RR,2,none⟩=some (.int .i64 Q.si)∧w'.cell? ⟨RR,3,none⟩=some (.int .i64 Q.st)∧w'.cell? ⟨RR,4,none⟩=some (.slice ay Q.sn.length cy)∧w'.cell? ⟨RR,5,none⟩=some (.slice az Q.lg.length cz)) (by kernel_rfl) ⟨g0,g1,g2,g3,g4,g5⟩ (fun hHeld0=>?_)
       refine forgetH (fun wx=>(wx.cell? ⟨RR,0,none⟩=some (.int .i64 Q.tm)∧wx.cell? ⟨RR,1,none⟩=some (.int .i64 Q.vt)∧wx.cell? ⟨RR,2,none⟩=some (.int .i64 Q.si)∧wx.cell? ⟨RR,3,none⟩=some (.int .i64 Q.st)∧wx.cell? ⟨RR,4,none⟩=some (.slice ay Q.sn.length cy)∧wx.cell? ⟨RR,5,none⟩=some (.slice az Q.lg.length cz))∧Below w5.heap.size w5 wx) ⟨hHeld0,below_drewN w5 1⟩ ?_
       clear hHeld0 g0 g1 g2 g3 g4 g5
       rintro Y0 ⟨hHeld,hbx⟩
       have D6:=hide (D5.out.later hbx)
       have V6:=hide (V5.out.later hbx)
       have G6:Hid (∀o,Y0.frozen? ⟨wr.heap.size,o,none⟩=false):=fun o=>((bcell hbx).2 _ _ V5.out.lt).trans (G5.out o)
       have VR6:=hide (VR5.out.later hbx)
       have IR6:=hide (IR5.out.later hbx)
       have hz6:=hbx.size
       clear D5 V5 G5 VR5 IR5
       clear hbx
       refine wpAnyH_take (i:=0) (v:=?vt13x0) rfl (by kernel_rfl) (by kernel_rfl) (by kernel_rfl) (fun _ _ _ h=>h) (Or.inl ⟨by rfl,?ht13x0⟩) hHeld ?rt13x0
       case ht13x0=>intro w9 hSw;(try dsimp only at hSw);first | (go_simp;done) | (go_simp;with_reducible rfl)
       try simp only [Act.put,List.setIfInBounds_toArray,List.set_cons_zero,List.set_cons_succ,List.getElem_toArray,List.getElem_cons_zero]
       refine wpAnyH_take (i:=1) (v:=?vt14x1) rfl (by kernel_rfl) (by kernel_rfl) (by kernel_rfl) (fun _ _ _ h=>h) (Or.inl ⟨by rfl,?ht14x1⟩) hHeld ?rt14x1
       case ht14x1=>intro w9 hSw;(try dsimp only at hSw);first | (go_simp;done) | (go_simp;with_reducible rfl)
       try simp only [Act.put,List.setIfInBounds_toArray,List.set_cons_zero,List.set_cons_succ,List.getElem_toArray,List.getElem_cons_zero,List.getElem_cons_succ]
       refine wpAnyH_take (i:=2) (v:=?vt15x2) rfl (by kernel_rfl) (by kernel_rfl) (by kernel_rfl) (fun _ _ _ h=>h) (Or.inl ⟨by rfl,?ht15x2⟩) hHeld ?rt15x2
       case ht15x2=>intro w9 hSw;(try dsimp only at hSw);first | (go_simp;done) | (go_simp;with_reducible rfl)
       try simp only [Act.put,List.setIfInBounds_toArray,List.set_cons_zero,List.set_cons_succ,List.getElem_toArray,List.getElem_cons_zero,List.getElem_cons_succ]
       refine wpAnyH_take (i:=6) (v:=?vt16x6) rfl (by kernel_rfl) (by kernel_rfl) (by kernel_rfl) (fun _ _ _ h=>h) (Or.inl ⟨by rfl,?ht16x6⟩) hHeld ?rt16x6
       case ht16x6=>intro w9 hSw;(try dsimp only at hSw);first | (go_simp;done) | (go_simp;with_reducible rfl)
       try simp only [Act.put,List.setIfInBounds_toArray,List.set_cons_zero,List.set_cons_succ,List.getElem_toArray,List.getElem_cons_zero,List.getElem_cons_succ]
       refine wpAnyH_take (i:=7) (v:=?vt17x7) rfl (by kernel_rfl) (by kernel_rfl) (by kernel_rfl) (fun _ _ _ h=>h) (Or.inl ⟨by rfl,?ht17x7⟩) hHeld ?rt17x7
       case ht17x7=>intro w9 hSw;(try dsimp only at hSw);first | (go_simp;done) | (go_simp;with_reducible rfl)
       try simp only [Act.put,List.setIfInBounds_toArray,List.set_cons_zero,List.set_cons_succ,List.getElem_toArray,List.getElem_cons_zero,List.getElem_cons_succ]
       refine wpAnyH_take (i:=9) (v:=?vt18x9) rfl (by kernel_rfl) (by kernel_rfl) (by kernel_rfl) (fun _ _ _ h=>h) (Or.inl ⟨by rfl,?ht18x9⟩) hHeld ?rt18x9
       case ht18x9=>intro w9 hSw;(try dsimp only at hSw);first | (go_simp;done) | (go_simp;with_reducible rfl)
       try simp only [Act.put,List.setIfInBounds_toArray,List.set_cons_zero,List.set_cons_succ,List.getElem_toArray,List.getElem_cons_zero,List.getElem_cons_succ]
       refine wpAnyH_ready (rs:=[3]) (by kernel_rfl) (by simp) (AllReadyH.cons rfl (fun K hK=>?_) AllReadyH.nil)
       go_simp
       go_at_call 40
       have hdt:=D6.out.2.2
       refine (l1Next 5 D6.out.1 (by omega) (by omega) (by omega)).mono ?_
       rintro e Y7 ⟨p,rfl,p0,p1,t7,hd7⟩
       have p2:=p1 (by omega)
       clear p1 hdt
       have D7:=hide (D6.out.on hd7)
       have V7:=hide (V6.out.wr hd7.2.1 (by show ¬ wr.heap.size=s;omega))
       have G7:Hid (∀o,Y7.frozen? ⟨wr.heap.size,o,none⟩=false):=fun o=>(hd7.2.1.frz _ _ V6.out.lt).trans (G6.out o)
       have VR7:=hide (VR6.out.wr hd7.2.1 (by show ¬ RR=s;omega))
       have IR7:=hide (IR6.out.wr hd7.2.1 (fun b k1 k2 e=>by have e:b=s:=e;omega))
       have hz7:=hd7.2.1.size
       clear D6 V6 G6 VR6 IR6
       clear hd7 hHeld
       refine hK.out _ _ VR7.out (fun hHeld=>?_)
       clear hK K
       try simp only [Act.put,List.setIfInBounds_toArray,List.set_cons_zero,List.set_cons_succ,List.getElem_toArray,List.getElem_cons_zero,List.getElem_cons_succ]
       refine wpAnyH_take (i:=4) (v:=?vt19x4) rfl (by kernel_rfl) (by kernel_rfl) (by kernel_rfl) (fun _ _ _ h=>h) (Or.inl ⟨by rfl,?ht19x4⟩) hHeld ?rt19x4
       case ht19x4=>intro w9 hSw;(try dsimp only at hSw);first | (go_simp;done) | (go_simp;with_reducible rfl)
       try simp only [Act.put,List.setIfInBounds_toArray,List.set_cons_zero,List.set_cons_succ,List.getElem_toArray,List.getElem_cons_zero,List.getElem_cons_succ]
       have ew:IntKind.i64.wrap (la+p)=la+p:=by simp [IntKind.wrap,IntKind.bits,IntKind.signed];omega
       rw [ew]
       clear ew
       refine wpAnyH_take (i:=5) (v:=?vt20x5) rfl (by kernel_rfl) (by kernel_rfl) (by kernel_rfl) (fun _ _ _ h=>h) (Or.inl ⟨by rfl,?ht20x5⟩) hHeld ?rt20x5
       case ht20x5=>intro w9 hSw;(try dsimp only at hSw);first | (go_simp;done) | (go_simp;with_reducible rfl)
       try simp only [Act.put,List.setIfInBounds_toArray,List.set_cons_zero,List.set_cons_succ,List.getElem_toArray,List.getElem_cons_zero,List.getElem_cons_succ]
       have ew:IntKind.i64.wrap (la+p - 2)=la+p - 2:=by simp [IntKind.wrap,IntKind.bits,IntKind.signed];omega
       rw [ew]
       clear ew
       obtain ⟨mt,hmt⟩: ∃x,(if Q.tm<1 then (1:Int) else Q.tm)=x:=⟨_,rfl⟩
       have HMx:=hide (l1Max_any (1) (Q.tm) Y7)
       rw [hmt] at HMx
       refine wpAnyH_ready (rs:=[8]) (by kernel_rfl) (by simp) (AllReadyH.cons rfl (fun K hK=>?_) AllReadyH.nil)
       go_simp
       go_at_call 49
       refine HMx.out.mono ?_
       rintro e YMmt ⟨rfl,rfl⟩
       clear hHeld HMx
       refine hK.out _ _ VR7.out (fun hHeld=>?_)
       clear hK K
       try simp only [Act.put,List.setIfInBounds_toArray,List.set_cons_zero,List.set_cons_succ,List.getElem_toArray,List.getElem_cons_zero,List.getElem_cons_succ]
       refine wpAnyH_ready (rs:=[10]) (by kernel_rfl) (by simp) (AllReadyH.cons rfl (fun K hK=>?_) AllReadyH.nil)
       go_simp
       go_at_call 47
       have hdt:=D7.out.2.2
       refine (l10DrawData D7.out.1 (by omega)).mono ?_
       rintro e Y8 ⟨zd,xs,rfl,hxl,hod,t8,hd8⟩
       clear hdt
       have hrd:=hide hod.rd
       obtain ⟨ad,cd,rfl⟩:=hrd.out.shape
       clear hod
       have D8:=hide (D7.out.on hd8)
       have V8:=hide (V7.out.wr hd8.2.1 (by show ¬ wr.heap.size=s;omega))
       have G8:Hid (∀o,Y8.frozen? ⟨wr.heap.size,o,none⟩=false):=fun o=>(hd8.2.1.frz _ _ V7.out.lt).trans (G7.out o)
       have VR8:=hide (VR7.out.wr hd8.2.1 (by show ¬ RR=s;omega))
       have IR8:=hide (IR7.out.wr hd8.2.1 (fun b k1 k2 e=>by have e:b=s:=e;omega))
       have hz8:=hd8.2.1.size
       clear D7 V7 G7 VR7 IR7
       clear hd8 hHeld
       refine hK.out _ _ VR8.out (fun hHeld=>?_)
       clear hK K
       try simp only [Act.put,List.setIfInBounds_toArray,List.set_cons_zero,List.set_cons_succ,List.getElem_toArray,List.getElem_cons_zero,List.getElem_cons_succ]
       obtain ⟨C,hC⟩: ∃C,inC Q (la+p - 2) mt xs=C:=⟨_,rfl⟩
       obtain ⟨X,hX⟩: ∃X,inR Q (la+p - 2) mt xs=X:=⟨_,rfl⟩
       have HF:=hide (fun h:C=0=>hX▸in_rf (hC.trans h))
       have HS8:=hide (specInstallRaft Q (la+p - 2) mt IR8.out.rdI IR8.out.rdJ IR8.out.capE hrd.out)
       rw [hC,hX] at HS8
       clear hC hX
       refine wpAnyH_ready (rs:=[11]) (by kernel_rfl) (by simp) (AllReadyH.cons rfl (fun K hK=>?_) AllReadyH.nil)
       go_simp
       go_at_call 48
       refine (HS8.out).mono ?_
       rintro e X1 ⟨y1,z1,rfl,hb,ho⟩
       obtain ⟨aX,kX,gX,jX,rfl,rfl⟩:=ho.shape
       have hlo:wr.heap.size<Y8.heap.size:=V8.out.lt
       have D9:=hide (D8.out.later hb)
       have V9:=hide (V8.out.later hb)
       have G9:Hid (∀o,X1.frozen? ⟨wr.heap.size,o,none⟩=false):=fun o=>((bcell hb).2 _ _ V8.out.lt).trans (G8.out o)
       have VR9:=hide (VR8.out.later hb)
       have IR9:=hide (IR8.out.later hb)
       have hz9:=hb.size
       clear D8 V8 G8 VR8 IR8
       have HO:=hide ho
       clear ho hb hHeld
       refine hK.out _ _ VR9.out (fun hHeld=>?_)
       clear hK K
       try simp only [Act.put,List.setIfInBounds_toArray,List.set_cons_zero,List.set_cons_succ,List.getElem_toArray,List.getElem_cons_zero,List.getElem_cons_succ]
       obtain ⟨x0,x1,x2,x3,x4,x5,x6⟩:=V9.out
       obtain ⟨g0,g1,g2,g3,g4,g5⟩:=VR9.out
       have e0:=G9.out 0
       have e1:=G9.out 1
       have e2:=G9.out 2
       have e3:=G9.out 3
       have e4:=G9.out 4
       have e5:=G9.out 5
       have e6:=G9.out 6
       have hn0:RR≠wr.heap.size:=by omega
       refine wpAnyH_ready (rs:=[12]) (by kernel_rfl) (by simp) (AllReadyH.cons rfl (fun K hK=>?_) (AllReadyH.nil))
       go_simp
       refine hK.out _ _ ⟨(set7_otherG hn0).trans g0,(set7_otherG hn0).trans g1,(set7_otherG hn0).trans g2,(set7_otherG hn0).trans g3,(set7_otherG hn0).trans g4,(set7_otherG hn0).trans g5⟩ (fun _=>?_)
       clear hK K
       try simp only [Act.put,List.setIfInBounds_toArray,List.set_cons_zero,List.set_cons_succ,List.getElem_toArray,List.getElem_cons_zero,List.getElem_cons_succ]
       refine wpAnyH_done (by kernel_rfl) ?_ _
       refine forgetX (fun W6=>Var7 W6 wr.heap.size (.int .i64 C) (.int .i64 X.tm) (.int .i64 X.vt) (.int .i64 X.si) (.int .i64 X.st) (.slice aX X.sn.length kX) (.slice gX X.lg.length jX)∧(∃lo hi,wr.heap.size<lo∧hi≤W6.heap.size∧IvR lo hi W6 (.slice aX X.sn.length kX) (.slice gX X.lg.length jX) X.sn X.lg)∧ ∃t7,Drawn 130 s v bs t5 t7 wr W6) ?scx ?_
       case scx=>
        have hw6:Wr (fun x=>x=wr.heap.size) X1 (((((((X1.setCell ⟨wr.heap.size,0,none⟩ (.int .i64 C)).setCell ⟨wr.heap.size,1,none⟩ (.int .i64 X.tm)).setCell ⟨wr.heap.size,2,none⟩ (.int .i64 X.vt)).setCell ⟨wr.heap.size,3,none⟩ (.int .i64 X.si)).setCell ⟨wr.heap.size,4,none⟩ (.int .i64 X.st)).setCell ⟨wr.heap.size,5,none⟩ (.slice aX X.sn.length kX)).setCell ⟨wr.heap.size,6,none⟩ (.slice gX X.lg.length jX)):=(Wr.setCell (p:=⟨wr.heap.size,6,none⟩) (Wr.setCell (p:=⟨wr.heap.size,5,none⟩) (Wr.setCell (p:=⟨wr.heap.size,4,none⟩) (Wr.setCell (p:=⟨wr.heap.size,3,none⟩) (Wr.setCell (p:=⟨wr.heap.size,2,none⟩) (Wr.setCell (p:=⟨wr.heap.size,1,none⟩) (Wr.setCell (p:=⟨wr.heap.size,0,none⟩) (Wr.refl (fun x=>x=wr.heap.size) X1) rfl (.int .i64 C)) rfl (.int .i64 X.tm)) rfl (.int .i64 X.vt)) rfl (.int .i64 X.si)) rfl (.int .i64 X.st)) rfl (.slice aX X.sn.length kX)) rfl (.slice gX X.lg.length jX))
        exact ⟨⟨by simp [go_sem,x0],by simp [go_sem,x1],by simp [go_sem,x2],by simp [go_sem,x3],by simp [go_sem,x4],by simp [go_sem,x5],by simp [go_sem,x6]⟩,⟨_,_,hlo,hw6.size,HO.out.wr hw6 (fun b h1 h2 e=>by omega)⟩,_,(Drawn.onBelow HI.out.dr.1 D9.out (hw6.below (by omega) (fun b e=>by omega))).mono (by omega)⟩
       clear x0 x1 x2 x3 x4 x5 x6 e0 e1 e2 e3 e4 e5 e6 g0 g1 g2 g3 g4 g5 hn0 D9 V9 G9 VR9 IR9 HO
       rintro W6 ⟨V8,M8,t8,D8⟩
       have HV8:=hide V8
       have HM8:=hide M8
       have HD8:=hide D8
       clear V8 M8 D8
       go_wp2
       go_meet
       exact ⟨C,X,_,_,t8,HD8,HV8,HM8,HF⟩
      ·skip
       have VR5:=hide (HV.out.wr D5.out.2.1 (by show ¬ RR=s;omega))
       have IR5:=hide (IV.out.wr D5.out.2.1 (fun b k1 k2 e=>by have e:b=s:=e;omega))
       have hz5:wr.heap.size<w5.heap.size:=V5.out.lt
       obtain ⟨g0,g1,g2,g3,g4,g5⟩:=VR5.out
       go_upto_region 8 with fail
       refine wp_region_held_drew (S:=fun w'=>w'.cell? ⟨RR,0,none⟩=some (.int .i64 Q.tm)∧w'.cell? ⟨RR,1,none⟩=some (.int .i64 Q.vt)∧w'.cell? ⟨RR,2,none⟩=some (.int .i64 Q.si)∧w'.cell? ⟨RR,3,none⟩=some (.int .i64 Q.st)∧w'.cell? ⟨RR,4,none⟩=some (.slice ay Q.sn.length cy)∧w'.cell? ⟨RR,5,none⟩=some (.slice az Q.lg.length cz)) (by kernel_rfl) ⟨g0,g1,g2,g3,g4,g5⟩ (fun hHeld0=>?_)
       refine forgetH (fun wx=>(wx.cell? ⟨RR,0,none⟩=some (.int .i64 Q.tm)∧wx.cell? ⟨RR,1,none⟩=some (.int .i64 Q.vt)∧wx.cell? ⟨RR,2,none⟩=some (.int .i64 Q.si)∧wx.cell? ⟨RR,3,none⟩=some (.int .i64 Q.st)∧wx.cell? ⟨RR,4,none⟩=some (.slice ay Q.sn.length cy)∧wx.cell? ⟨RR,5,none⟩=some (.slice az Q.lg.length cz))∧Below w5.heap.size w5 wx) ⟨hHeld0,below_drewN w5 1⟩ ?_
       clear hHeld0 g0 g1 g2 g3 g4 g5
       rintro Y0 ⟨hHeld,hbx⟩
       have D6:=hide (D5.out.later hbx)
       have V6:=hide (V5.out.later hbx)
       have G6:Hid (∀o,Y0.frozen? ⟨wr.heap.size,o,none⟩=false):=fun o=>((bcell hbx).2 _ _ V5.out.lt).trans (G5.out o)
       have VR6:=hide (VR5.out.later hbx)
       have IR6:=hide (IR5.out.later hbx)
       have hz6:=hbx.size
       clear D5 V5 G5 VR5 IR5
       clear hbx
       refine wpAnyH_take (i:=0) (v:=?vt21x0) rfl (by kernel_rfl) (by kernel_rfl) (by kernel_rfl) (fun _ _ _ h=>h) (Or.inl ⟨by rfl,?ht21x0⟩) hHeld ?rt21x0
       case ht21x0=>intro w9 hSw;(try dsimp only at hSw);first | (go_simp;done) | (go_simp;with_reducible rfl)
       try simp only [Act.put,List.setIfInBounds_toArray,List.set_cons_zero,List.set_cons_succ,List.getElem_toArray,List.getElem_cons_zero]
       refine wpAnyH_take (i:=1) (v:=?vt22x1) rfl (by kernel_rfl) (by kernel_rfl) (by kernel_rfl) (fun _ _ _ h=>h) (Or.inl ⟨by rfl,?ht22x1⟩) hHeld ?rt22x1
       case ht22x1=>intro w9 hSw;(try dsimp only at hSw);first | (go_simp;done) | (go_simp;with_reducible rfl)
       try simp only [Act.put,List.setIfInBounds_toArray,List.set_cons_zero,List.set_cons_succ,List.getElem_toArray,List.getElem_cons_zero,List.getElem_cons_succ]
       refine wpAnyH_take (i:=2) (v:=?vt23x2) rfl (by kernel_rfl) (by kernel_rfl) (by kernel_rfl) (fun _ _ _ h=>h) (Or.inl ⟨by rfl,?ht23x2⟩) hHeld ?rt23x2
       case ht23x2=>intro w9 hSw;(try dsimp only at hSw);first | (go_simp;done) | (go_simp;with_reducible rfl)
       try simp only [Act.put,List.setIfInBounds_toArray,List.set_cons_zero,List.set_cons_succ,List.getElem_toArray,List.getElem_cons_zero,List.getElem_cons_succ]
       refine wpAnyH_take (i:=3) (v:=?vt24x3) rfl (by kernel_rfl) (by kernel_rfl) (by kernel_rfl) (fun _ _ _ h=>h) (Or.inl ⟨by rfl,?ht24x3⟩) hHeld ?rt24x3
       case ht24x3=>intro w9 hSw;(try dsimp only at hSw);first | (go_simp;done) | (go_simp;with_reducible rfl)
       try simp only [Act.put,List.setIfInBounds_toArray,List.set_cons_zero,List.set_cons_succ,List.getElem_toArray,List.getElem_cons_zero,List.getElem_cons_succ]
       refine wpAnyH_ready (rs:=[4]) (by kernel_rfl) (by simp) (AllReadyH.cons rfl (fun K hK=>?_) AllReadyH.nil)
       go_simp
       go_at_call 40
       have hdt:=D6.out.2.2
       refine (l1Next 3 D6.out.1 (by omega) (by omega) (by omega)).mono ?_
       rintro e YMmt ⟨p,rfl,p0,p1,t7,hd7⟩
       have p2:=p1 (by omega)
       clear p1 hdt
       have D7:=hide (D6.out.on hd7)
       have V7:=hide (V6.out.wr hd7.2.1 (by show ¬ wr.heap.size=s;omega))
       have G7:Hid (∀o,YMmt.frozen? ⟨wr.heap.size,o,none⟩=false):=fun o=>(hd7.2.1.frz _ _ V6.out.lt).trans (G6.out o)
       have VR7:=hide (VR6.out.wr hd7.2.1 (by show ¬ RR=s;omega))
       have IR7:=hide (IR6.out.wr hd7.2.1 (fun b k1 k2 e=>by have e:b=s:=e;omega))
       have hz7:=hd7.2.1.size
       clear D6 V6 G6 VR6 IR6
       clear hd7 hHeld
       refine hK.out _ _ VR7.out (fun hHeld=>?_)
       clear hK K
       try simp only [Act.put,List.setIfInBounds_toArray,List.set_cons_zero,List.set_cons_succ,List.getElem_toArray,List.getElem_cons_zero,List.getElem_cons_succ]
       refine wpAnyH_take (i:=5) (v:=?vt25x5) rfl (by kernel_rfl) (by kernel_rfl) (by kernel_rfl) (fun _ _ _ h=>h) (Or.inl ⟨by rfl,?ht25x5⟩) hHeld ?rt25x5
       case ht25x5=>intro w9 hSw;(try dsimp only at hSw);first | (go_simp;done) | (go_simp;with_reducible rfl)
       try simp only [Act.put,List.setIfInBounds_toArray,List.set_cons_zero,List.set_cons_succ,List.getElem_toArray,List.getElem_cons_zero,List.getElem_cons_succ]
       have ew:IntKind.i64.wrap (la - p)=la - p:=by simp [IntKind.wrap,IntKind.bits,IntKind.signed];omega
       rw [ew]
       clear ew
       obtain ⟨mt,hmt⟩: ∃x,(if la - p<Q.si then (Q.si:Int) else la - p)=x:=⟨_,rfl⟩
       have HMx:=hide (l1Max_any (Q.si) (la - p) YMmt)
       rw [hmt] at HMx
       refine wpAnyH_ready (rs:=[6]) (by kernel_rfl) (by simp) (AllReadyH.cons rfl (fun K hK=>?_) AllReadyH.nil)
       go_simp
       go_at_call 49
       refine HMx.out.mono ?_
       rintro e YMmt ⟨rfl,rfl⟩
       clear hHeld HMx
       refine hK.out _ _ VR7.out (fun hHeld=>?_)
       clear hK K
       try simp only [Act.put,List.setIfInBounds_toArray,List.set_cons_zero,List.set_cons_succ,List.getElem_toArray,List.getElem_cons_zero,List.getElem_cons_succ]
       refine wpAnyH_take (i:=7) (v:=?vt26x7) rfl (by kernel_rfl) (by kernel_rfl) (by kernel_rfl) (fun _ _ _ h=>h) (Or.inl ⟨by rfl,?ht26x7⟩) hHeld ?rt26x7
       case ht26x7=>intro w9 hSw;(try dsimp only at hSw);first | (go_simp;done) | (go_simp;with_reducible rfl)
       try simp only [Act.put,List.setIfInBounds_toArray,List.set_cons_zero,List.set_cons_succ,List.getElem_toArray,List.getElem_cons_zero,List.getElem_cons_succ]
       refine wpAnyH_done (by kernel_rfl) ?_ _
       have hmb:Q.si≤mt∧mt≤10013:=by by_cases h:la - p<Q.si <;>simp only [h,if_true,if_false] at hmt <;>omega
       clear hmt hHeld
       have HTM:=hide (l10TermI Q mt (rfF_iff.1 HQ.out) VR7.out ⟨_,_,_,rfl⟩ IR7.out.rdJ)
       go_upto_region 10 with (go_at_call 50;refine HTM.out.mono ?_;rintro e wz ⟨rfl,q9,rfl⟩)
       have htv:=tmV_bd (i:=mt) HQ.out
       obtain ⟨tv,htq⟩: ∃x,tmV Q mt=x:=⟨_,rfl⟩
       have HTV:=hide htq
       rw [htq] at htv
       try rw [htq]
       clear htq HTM
       have hbz:=below_drewN YMmt q9
       obtain ⟨YZ,hYZ⟩: ∃x,YMmt.drewN q9=x:=⟨_,rfl⟩
       rw [hYZ] at hbz⊢
       clear hYZ
       have D8:=hide (D7.out.later hbz)
       have V8:=hide (V7.out.later hbz)
       have G8:Hid (∀o,YZ.frozen? ⟨wr.heap.size,o,none⟩=false):=fun o=>((bcell hbz).2 _ _ V7.out.lt).trans (G7.out o)
       have VR8:=hide (VR7.out.later hbz)
       have IR8:=hide (IR7.out.later hbz)
       have hz8:=hbz.size
       clear D7 V7 G7 VR7 IR7
       clear hbz
       obtain ⟨g0,g1,g2,g3,g4,g5⟩:=VR8.out
       refine wp_region_held_drew (S:=fun w'=>w'.cell? ⟨RR,0,none⟩=some (.int .i64 Q.tm)∧w'.cell? ⟨RR,1,none⟩=some (.int .i64 Q.vt)∧w'.cell? ⟨RR,2,none⟩=some (.int .i64 Q.si)∧w'.cell? ⟨RR,3,none⟩=some (.int .i64 Q.st)∧w'.cell? ⟨RR,4,none⟩=some (.slice ay Q.sn.length cy)∧w'.cell? ⟨RR,5,none⟩=some (.slice az Q.lg.length cz)) (by kernel_rfl) ⟨g0,g1,g2,g3,g4,g5⟩ (fun hHeld0=>?_)
       refine forgetH (fun wx=>(wx.cell? ⟨RR,0,none⟩=some (.int .i64 Q.tm)∧wx.cell? ⟨RR,1,none⟩=some (.int .i64 Q.vt)∧wx.cell? ⟨RR,2,none⟩=some (.int .i64 Q.si)∧wx.cell? ⟨RR,3,none⟩=some (.int .i64 Q.st)∧wx.cell? ⟨RR,4,none⟩=some (.slice ay Q.sn.length cy)∧wx.cell? ⟨RR,5,none⟩=some (.slice az Q.lg.length cz))∧Below YZ.heap.size YZ wx) ⟨hHeld0,below_drewN YZ 1⟩ ?_
       clear hHeld0 g0 g1 g2 g3 g4 g5
       rintro Z0 ⟨hHeld,hbx⟩
       have D9:=hide (D8.out.later hbx)
       have V9:=hide (V8.out.later hbx)
       have G9:Hid (∀o,Z0.frozen? ⟨wr.heap.size,o,none⟩=false):=fun o=>((bcell hbx).2 _ _ V8.out.lt).trans (G8.out o)
       have VR9:=hide (VR8.out.later hbx)
       have IR9:=hide (IR8.out.later hbx)
       have hz9:=hbx.size
       clear D8 V8 G8 VR8 IR8
       clear hbx
       refine wpAnyH_take (i:=0) (v:=?vt27x0) rfl (by kernel_rfl) (by kernel_rfl) (by kernel_rfl) (fun _ _ _ h=>h) (Or.inl ⟨by rfl,?ht27x0⟩) hHeld ?rt27x0
       case ht27x0=>intro w9 hSw;(try dsimp only at hSw);first | (go_simp;done) | (go_simp;with_reducible rfl)
       try simp only [Act.put,List.setIfInBounds_toArray,List.set_cons_zero,List.set_cons_succ,List.getElem_toArray,List.getElem_cons_zero]
       refine wpAnyH_take (i:=1) (v:=?vt28x1) rfl (by kernel_rfl) (by kernel_rfl) (by kernel_rfl) (fun _ _ _ h=>h) (Or.inl ⟨by rfl,?ht28x1⟩) hHeld ?rt28x1
       case ht28x1=>intro w9 hSw;(try dsimp only at hSw);first | (go_simp;done) | (go_simp;with_reducible rfl)
       try simp only [Act.put,List.setIfInBounds_toArray,List.set_cons_zero,List.set_cons_succ,List.getElem_toArray,List.getElem_cons_zero,List.getElem_cons_succ]
       refine wpAnyH_take (i:=2) (v:=?vt29x2) rfl (by kernel_rfl) (by kernel_rfl) (by kernel_rfl) (fun _ _ _ h=>h) (Or.inl ⟨by rfl,?ht29x2⟩) hHeld ?rt29x2
       case ht29x2=>intro w9 hSw;(try dsimp only at hSw);first | (go_simp;done) | (go_simp;with_reducible rfl)
       try simp only [Act.put,List.setIfInBounds_toArray,List.set_cons_zero,List.set_cons_succ,List.getElem_toArray,List.getElem_cons_zero,List.getElem_cons_succ]
       refine wpAnyH_take (i:=3) (v:=?vt30x3) rfl (by kernel_rfl) (by kernel_rfl) (by kernel_rfl) (fun _ _ _ h=>h) (Or.inl ⟨by rfl,?ht30x3⟩) hHeld ?rt30x3
       case ht30x3=>intro w9 hSw;(try dsimp only at hSw);first | (go_simp;done) | (go_simp;with_reducible rfl)
       try simp only [Act.put,List.setIfInBounds_toArray,List.set_cons_zero,List.set_cons_succ,List.getElem_toArray,List.getElem_cons_zero,List.getElem_cons_succ]
       refine wpAnyH_take (i:=4) (v:=?vt31x4) rfl (by kernel_rfl) (by kernel_rfl) (by kernel_rfl) (fun _ _ _ h=>h) (Or.inl ⟨by rfl,?ht31x4⟩) hHeld ?rt31x4
       case ht31x4=>intro w9 hSw;(try dsimp only at hSw);first | (go_simp;done) | (go_simp;with_reducible rfl)
       try simp only [Act.put,List.setIfInBounds_toArray,List.set_cons_zero,List.set_cons_succ,List.getElem_toArray,List.getElem_cons_zero,List.getElem_cons_succ]
       refine wpAnyH_take (i:=5) (v:=?vt32x5) rfl (by kernel_rfl) (by kernel_rfl) (by kernel_rfl) (fun _ _ _ h=>h) (Or.inl ⟨by rfl,?ht32x5⟩) hHeld ?rt32x5
       case ht32x5=>intro w9 hSw;(try dsimp only at hSw);first | (go_simp;done) | (go_simp;with_reducible rfl)
       try simp only [Act.put,List.setIfInBounds_toArray,List.set_cons_zero,List.set_cons_succ,List.getElem_toArray,List.getElem_cons_zero,List.getElem_cons_succ]
       have ew:IntKind.i64.wrap (mt+1)=mt+1:=by simp [IntKind.wrap,IntKind.bits,IntKind.signed];omega
       rw [ew]
       clear ew
       refine wpAnyH_take (i:=6) (v:=?vt33x6) rfl (by kernel_rfl) (by kernel_rfl) (by kernel_rfl) (fun _ _ _ h=>h) (Or.inl ⟨by rfl,?ht33x6⟩) hHeld ?rt33x6
       case ht33x6=>intro w9 hSw;(try dsimp only at hSw);first | (go_simp;done) | (go_simp;with_reducible rfl)
       try simp only [Act.put,List.setIfInBounds_toArray,List.set_cons_zero,List.set_cons_succ,List.getElem_toArray,List.getElem_cons_zero,List.getElem_cons_succ]
       refine wpAnyH_take (i:=7) (v:=?vt34x7) rfl (by kernel_rfl) (by kernel_rfl) (by kernel_rfl) (fun _ _ _ h=>h) (Or.inl ⟨by rfl,?ht34x7⟩) hHeld ?rt34x7
       case ht34x7=>intro w9 hSw;(try dsimp only at hSw);first | (go_simp;done) | (go_simp;with_reducible rfl)
       try simp only [Act.put,List.setIfInBounds_toArray,List.set_cons_zero,List.set_cons_succ,List.getElem_toArray,List.getElem_cons_zero,List.getElem_cons_succ]
       refine wpAnyH_take (i:=8) (v:=?vt35x8) rfl (by kernel_rfl) (by kernel_rfl) (by kernel_rfl) (fun _ _ _ h=>h) (Or.inl ⟨by rfl,?ht35x8⟩) hHeld ?rt35x8
       case ht35x8=>intro w9 hSw;(try dsimp only at hSw);first | (go_simp;done) | (go_simp;with_reducible rfl)
       try simp only [Act.put,List.setIfInBounds_toArray,List.set_cons_zero,List.set_cons_succ,List.getElem_toArray,List.getElem_cons_zero,List.getElem_cons_succ]
       refine wpAnyH_take (i:=9) (v:=?vt36x9) rfl (by kernel_rfl) (by kernel_rfl) (by kernel_rfl) (fun _ _ _ h=>h) (Or.inl ⟨by rfl,?ht36x9⟩) hHeld ?rt36x9
       case ht36x9=>intro w9 hSw;(try dsimp only at hSw);first | (go_simp;done) | (go_simp;with_reducible rfl)
       try simp only [Act.put,List.setIfInBounds_toArray,List.set_cons_zero,List.set_cons_succ,List.getElem_toArray,List.getElem_cons_zero,List.getElem_cons_succ]
       have ew:IntKind.i64.wrap (Q.tm - 1)=Q.tm - 1:=by simp [IntKind.wrap,IntKind.bits,IntKind.signed];omega
       rw [ew]
       clear ew
       refine wpAnyH_take (i:=12) (v:=?vt37x12) rfl (by kernel_rfl) (by kernel_rfl) (by kernel_rfl) (fun _ _ _ h=>h) (Or.inl ⟨by rfl,?ht37x12⟩) hHeld ?rt37x12
       case ht37x12=>intro w9 hSw;(try dsimp only at hSw);first | (go_simp;done) | (go_simp;with_reducible rfl)
       try simp only [Act.put,List.setIfInBounds_toArray,List.set_cons_zero,List.set_cons_succ,List.getElem_toArray,List.getElem_cons_zero,List.getElem_cons_succ]
       obtain ⟨m1,hm1⟩: ∃x,(if Q.tm - 1<tv then (tv:Int) else Q.tm - 1)=x:=⟨_,rfl⟩
       have HMx:=hide (l1Max_any (tv) (Q.tm - 1) Z0)
       rw [hm1] at HMx
       refine wpAnyH_ready (rs:=[10]) (by kernel_rfl) (by simp) (AllReadyH.cons rfl (fun K hK=>?_) AllReadyH.nil)
       go_simp
       go_at_call 49
       refine HMx.out.mono ?_
       rintro e YMm1 ⟨rfl,rfl⟩
       clear hHeld HMx
       refine hK.out _ _ VR9.out (fun hHeld=>?_)
       clear hK K
       try simp only [Act.put,List.setIfInBounds_toArray,List.set_cons_zero,List.set_cons_succ,List.getElem_toArray,List.getElem_cons_zero,List.getElem_cons_succ]
       have hm1:m1≤999:=by by_cases h:Q.tm - 1<tv <;>simp only [h,if_true,if_false] at hm1 <;>omega
       obtain ⟨m2,hm2⟩: ∃x,(if m1<1 then (1:Int) else m1)=x:=⟨_,rfl⟩
       have HMx:=hide (l1Max_any (1) (m1) YMm1)
       rw [hm2] at HMx
       refine wpAnyH_ready (rs:=[11]) (by kernel_rfl) (by simp) (AllReadyH.cons rfl (fun K hK=>?_) AllReadyH.nil)
       go_simp
       go_at_call 49
       refine HMx.out.mono ?_
       rintro e YMm2 ⟨rfl,rfl⟩
       clear hHeld HMx
       refine hK.out _ _ VR9.out (fun hHeld=>?_)
       clear hK K
       try simp only [Act.put,List.setIfInBounds_toArray,List.set_cons_zero,List.set_cons_succ,List.getElem_toArray,List.getElem_cons_zero,List.getElem_cons_succ]
       have hm2:1≤m2∧m2≤999:=by by_cases h:m1<1 <;>simp only [h,if_true,if_false] at hm2 <;>omega
       refine wpAnyH_ready (rs:=[13]) (by kernel_rfl) (by simp) (AllReadyH.cons rfl (fun K hK=>?_) AllReadyH.nil)
       go_simp
       go_at_call 40
       have hdt:=D9.out.2.2
       refine (l1Next 3 D9.out.1 (by omega) (by omega) (by omega)).mono ?_
       rintro e Y10 ⟨q,rfl,q0,q1,t10,hd10⟩
       have q2:=q1 (by omega)
       clear q1 hdt
       have D10:=hide (D9.out.on hd10)
       have V10:=hide (V9.out.wr hd10.2.1 (by show ¬ wr.heap.size=s;omega))
       have G10:Hid (∀o,Y10.frozen? ⟨wr.heap.size,o,none⟩=false):=fun o=>(hd10.2.1.frz _ _ V9.out.lt).trans (G9.out o)
       have VR10:=hide (VR9.out.wr hd10.2.1 (by show ¬ RR=s;omega))
       have IR10:=hide (IR9.out.wr hd10.2.1 (fun b k1 k2 e=>by have e:b=s:=e;omega))
       have hz10:=hd10.2.1.size
       clear D9 V9 G9 VR9 IR9
       clear hd10 hHeld
       refine hK.out _ _ VR10.out (fun hHeld=>?_)
       clear hK K
       try simp only [Act.put,List.setIfInBounds_toArray,List.set_cons_zero,List.set_cons_succ,List.getElem_toArray,List.getElem_cons_zero,List.getElem_cons_succ]
       refine wpAnyH_take (i:=14) (v:=?vt38x14) rfl (by kernel_rfl) (by kernel_rfl) (by kernel_rfl) (fun _ _ _ h=>h) (Or.inl ⟨by rfl,?ht38x14⟩) hHeld ?rt38x14
       case ht38x14=>intro w9 hSw;(try dsimp only at hSw);first | (go_simp;done) | (go_simp;with_reducible rfl)
       try simp only [Act.put,List.setIfInBounds_toArray,List.set_cons_zero,List.set_cons_succ,List.getElem_toArray,List.getElem_cons_zero,List.getElem_cons_succ]
       have ew:IntKind.i64.wrap (1+q)=1+q:=by simp [IntKind.wrap,IntKind.bits,IntKind.signed];omega
       rw [ew]
       clear ew
       obtain ⟨n9,hn9⟩: ∃n:Nat,1+q=(n:Int):=⟨(1+q).toNat,by omega⟩
       rw [hn9]
       refine wpAnyH_ready (rs:=[15]) (by kernel_rfl) (by simp) (AllReadyH.cons rfl (fun K hK=>?_) AllReadyH.nil)
       go_simp
       go_at_call 52
       have hdt:=D10.out.2.2
       refine (l9Draw D10.out.1 (by omega) (mt+1) m2 n9 (by omega) (by omega) (by omega) (by omega) (by omega)).mono ?_
       rintro e Y11 ⟨zd,gs,rfl,hgl,hgm,heo,t11,hd11⟩
       clear hdt
       have hcp:=hide heo.capR
       have hrd:=hide (heo.rdP hgl (by omega) (fun i hi=>Nat.le_trans (hgm _ (getD_memR hi)) (by omega)))
       clear heo
       obtain ⟨ad,cd,rfl,_⟩:=hrd.out.shape
       have D11:=hide (D10.out.on hd11)
       have V11:=hide (V10.out.wr hd11.2.1 (by show ¬ wr.heap.size=s;omega))
       have G11:Hid (∀o,Y11.frozen? ⟨wr.heap.size,o,none⟩=false):=fun o=>(hd11.2.1.frz _ _ V10.out.lt).trans (G10.out o)
       have VR11:=hide (VR10.out.wr hd11.2.1 (by show ¬ RR=s;omega))
       have IR11:=hide (IR10.out.wr hd11.2.1 (fun b k1 k2 e=>by have e:b=s:=e;omega))
       have hz11:=hd11.2.1.size
       clear D10 V10 G10 VR10 IR10
       clear hd11 hHeld
       refine hK.out _ _ VR11.out (fun hHeld=>?_)
       clear hK K
       try simp only [Act.put,List.setIfInBounds_toArray,List.set_cons_zero,List.set_cons_succ,List.getElem_toArray,List.getElem_cons_zero,List.getElem_cons_succ]
       obtain ⟨C,hC⟩: ∃C,apRC Q mt tv gs=C:=⟨_,rfl⟩
       obtain ⟨X,hX⟩: ∃X,apRR Q mt tv gs=X:=⟨_,rfl⟩
       have HF:=hide (fun h:C=0=>hX▸ap_rf2 (hC.trans h))
       have HS8:=hide (specAppendRaft Q mt tv IR11.out.rdI IR11.out.rdJ IR11.out.capE hrd.out hcp.out)
       rw [hC,hX] at HS8
       clear hC hX
       rw [hgl] at HS8
       refine wpAnyH_ready (rs:=[16]) (by kernel_rfl) (by simp) (AllReadyH.cons rfl (fun K hK=>?_) AllReadyH.nil)
       go_simp
       go_at_call 51
       refine (HS8.out).mono ?_
       rintro e X1 ⟨y1,z1,rfl,hb,ho⟩
       obtain ⟨aX,kX,gX,jX,rfl,rfl⟩:=ho.shape
       have hlo:wr.heap.size<Y11.heap.size:=V11.out.lt
       have D12:=hide (D11.out.later hb)
       have V12:=hide (V11.out.later hb)
       have G12:Hid (∀o,X1.frozen? ⟨wr.heap.size,o,none⟩=false):=fun o=>((bcell hb).2 _ _ V11.out.lt).trans (G11.out o)
       have VR12:=hide (VR11.out.later hb)
       have IR12:=hide (IR11.out.later hb)
       have hz12:=hb.size
       clear D11 V11 G11 VR11 IR11
       have HO:=hide ho
       clear ho hb hHeld
       refine hK.out _ _ VR12.out (fun hHeld=>?_)
       clear hK K
       try simp only [Act.put,List.setIfInBounds_toArray,List.set_cons_zero,List.set_cons_succ,List.getElem_toArray,List.getElem_cons_zero,List.getElem_cons_succ]
       obtain ⟨x0,x1,x2,x3,x4,x5,x6⟩:=V12.out
       obtain ⟨g0,g1,g2,g3,g4,g5⟩:=VR12.out
       have e0:=G12.out 0
       have e1:=G12.out 1
       have e2:=G12.out 2
       have e3:=G12.out 3
       have e4:=G12.out 4
       have e5:=G12.out 5
       have e6:=G12.out 6
       have hn0:RR≠wr.heap.size:=by omega
       refine wpAnyH_ready (rs:=[17]) (by kernel_rfl) (by simp) (AllReadyH.cons rfl (fun K hK=>?_) (AllReadyH.nil))
       go_simp
       refine hK.out _ _ ⟨(set7_otherG hn0).trans g0,(set7_otherG hn0).trans g1,(set7_otherG hn0).trans g2,(set7_otherG hn0).trans g3,(set7_otherG hn0).trans g4,(set7_otherG hn0).trans g5⟩ (fun _=>?_)
       clear hK K
       try simp only [Act.put,List.setIfInBounds_toArray,List.set_cons_zero,List.set_cons_succ,List.getElem_toArray,List.getElem_cons_zero,List.getElem_cons_succ]
       refine wpAnyH_done (by kernel_rfl) ?_ _
       refine forgetX (fun W6=>Var7 W6 wr.heap.size (.int .i64 C) (.int .i64 X.tm) (.int .i64 X.vt) (.int .i64 X.si) (.int .i64 X.st) (.slice aX X.sn.length kX) (.slice gX X.lg.length jX)∧(∃lo hi,wr.heap.size<lo∧hi≤W6.heap.size∧IvR lo hi W6 (.slice aX X.sn.length kX) (.slice gX X.lg.length jX) X.sn X.lg)∧ ∃t7,Drawn 130 s v bs t5 t7 wr W6) ?scx ?_
       case scx=>
        have hw6:Wr (fun x=>x=wr.heap.size) X1 (((((((X1.setCell ⟨wr.heap.size,0,none⟩ (.int .i64 C)).setCell ⟨wr.heap.size,1,none⟩ (.int .i64 X.tm)).setCell ⟨wr.heap.size,2,none⟩ (.int .i64 X.vt)).setCell ⟨wr.heap.size,3,none⟩ (.int .i64 X.si)).setCell ⟨wr.heap.size,4,none⟩ (.int .i64 X.st)).setCell ⟨wr.heap.size,5,none⟩ (.slice aX X.sn.length kX)).setCell ⟨wr.heap.size,6,none⟩ (.slice gX X.lg.length jX)):=(Wr.setCell (p:=⟨wr.heap.size,6,none⟩) (Wr.setCell (p:=⟨wr.heap.size,5,none⟩) (Wr.setCell (p:=⟨wr.heap.size,4,none⟩) (Wr.setCell (p:=⟨wr.heap.size,3,none⟩) (Wr.setCell (p:=⟨wr.heap.size,2,none⟩) (Wr.setCell (p:=⟨wr.heap.size,1,none⟩) (Wr.setCell (p:=⟨wr.heap.size,0,none⟩) (Wr.refl (fun x=>x=wr.heap.size) X1) rfl (.int .i64 C)) rfl (.int .i64 X.tm)) rfl (.int .i64 X.vt)) rfl (.int .i64 X.si)) rfl (.int .i64 X.st)) rfl (.slice aX X.sn.length kX)) rfl (.slice gX X.lg.length jX))
        exact ⟨⟨by simp [go_sem,x0],by simp [go_sem,x1],by simp [go_sem,x2],by simp [go_sem,x3],by simp [go_sem,x4],by simp [go_sem,x5],by simp [go_sem,x6]⟩,⟨_,_,hlo,hw6.size,HO.out.wr hw6 (fun b h1 h2 e=>by omega)⟩,_,(Drawn.onBelow HI.out.dr.1 D12.out (hw6.below (by omega) (fun b e=>by omega))).mono (by omega)⟩
       clear x0 x1 x2 x3 x4 x5 x6 e0 e1 e2 e3 e4 e5 e6 g0 g1 g2 g3 g4 g5 hn0 D12 V12 G12 VR12 IR12 HO
       rintro W6 ⟨V8,M8,t8,D8⟩
       have HV8:=hide V8
       have HM8:=hide M8
       have HD8:=hide D8
       clear V8 M8 D8
       go_wp2
       go_meet
       exact ⟨C,X,_,_,t8,HD8,HV8,HM8,HF⟩
   case rest=>
    obtain ⟨code,X,yx,zx,t7,DX,VX,MX,FX⟩:=hcut
    clear D5 V5 G5
    obtain ⟨x0,x1,x2,x3,x4,x5,x6⟩:=VX.out
    have hzc:=DX.out.2.1.size
    have hn0:RR≠s:=by omega
    obtain ⟨lo,hi,l1,l2,ivx⟩:=MX.out
    obtain ⟨a7,k7,g7,j7,ey7,ez7⟩:=ivx.shape
    subst ey7
    subst ez7
    have hNb:2+140*(m - K)+130≤2+140*(m - (K - 1)):=by omega
    by_cases hcd:code=0
    ·skip
     have hw6:Wr (fun x=>x=RR) wc ((((((wc.setCell ⟨RR,0,none⟩ (.int .i64 X.tm)).setCell ⟨RR,1,none⟩ (.int .i64 X.vt)).setCell ⟨RR,2,none⟩ (.int .i64 X.si)).setCell ⟨RR,3,none⟩ (.int .i64 X.st)).setCell ⟨RR,4,none⟩ (.slice a7 X.sn.length k7)).setCell ⟨RR,5,none⟩ (.slice g7 X.lg.length j7)):=(Wr.setCell (p:=⟨RR,5,none⟩) (Wr.setCell (p:=⟨RR,4,none⟩) (Wr.setCell (p:=⟨RR,3,none⟩) (Wr.setCell (p:=⟨RR,2,none⟩) (Wr.setCell (p:=⟨RR,1,none⟩) (Wr.setCell (p:=⟨RR,0,none⟩) (Wr.refl (fun x=>x=RR) wc) rfl (.int .i64 X.tm)) rfl (.int .i64 X.vt)) rfl (.int .i64 X.si)) rfl (.int .i64 X.st)) rfl (.slice a7 X.sn.length k7)) rfl (.slice g7 X.lg.length j7))
     have VRc:=HI.out.var.wr DX.out.2.1 (by show ¬ RR=s;omega)
     obtain ⟨r0,r1,r2,r3,r4,r5⟩:=VRc
     have f0:wc.frozen? ⟨RR,0,none⟩=false:=(DX.out.2.1.frz _ _ hRl).trans (HI.out.vfz 0)
     have f1:wc.frozen? ⟨RR,1,none⟩=false:=(DX.out.2.1.frz _ _ hRl).trans (HI.out.vfz 1)
     have f2:wc.frozen? ⟨RR,2,none⟩=false:=(DX.out.2.1.frz _ _ hRl).trans (HI.out.vfz 2)
     have f3:wc.frozen? ⟨RR,3,none⟩=false:=(DX.out.2.1.frz _ _ hRl).trans (HI.out.vfz 3)
     have f4:wc.frozen? ⟨RR,4,none⟩=false:=(DX.out.2.1.frz _ _ hRl).trans (HI.out.vfz 4)
     have f5:wc.frozen? ⟨RR,5,none⟩=false:=(DX.out.2.1.frz _ _ hRl).trans (HI.out.vfz 5)
     have HQX:=hide (FX.out hcd)
     have HN:Hid (RgI w s v bs t (2+140*(m - (K - 1))) RR X (.slice a7 X.sn.length k7) (.slice g7 X.lg.length j7) t7 ((((((wc.setCell ⟨RR,0,none⟩ (.int .i64 X.tm)).setCell ⟨RR,1,none⟩ (.int .i64 X.vt)).setCell ⟨RR,2,none⟩ (.int .i64 X.si)).setCell ⟨RR,3,none⟩ (.int .i64 X.st)).setCell ⟨RR,4,none⟩ (.slice a7 X.sn.length k7)).setCell ⟨RR,5,none⟩ (.slice g7 X.lg.length j7))):=⟨((Drawn.onBelow HS.out (HI.out.dr.on DX.out) (hw6.below (by omega) (fun b e=>by omega)))).mono hNb,(HI.out.res.wr DX.out.2.1 (by show ¬ w.heap.size=s;omega)).wr hw6 (by show ¬ w.heap.size=RR;omega),fun o=>(hw6.frz _ _ (by have:=HI.out.res.lt;omega)).trans ((DX.out.2.1.frz _ _ HI.out.res.lt).trans (HI.out.rfz o)),⟨by simp [go_sem,r0],by simp [go_sem,r1],by simp [go_sem,r2],by simp [go_sem,r3],by simp [go_sem,r4],by simp [go_sem,r5]⟩,fun o=>(hw6.frz _ _ (by omega)).trans ((DX.out.2.1.frz _ _ hRl).trans (HI.out.vfz o)),⟨lo,hi,by omega,Nat.le_trans l2 hw6.size,Or.inr (by omega),ivx.wr hw6 (fun b h1 h2 e=>by have e:b=RR:=e;omega)⟩,hgR,hsl⟩
     clear hw6 ivx
     subst hcd
     go_wp2
     go_roundw
     case rel=>exact ⟨K - 1,X,_,_,t7,by omega,by go_num,HN,HQX⟩
     case measure=>simp [RowKit.intOf];omega
    ·skip
     have HN:Hid (RgI w s v bs t (2+140*(m - (K - 1))) RR Q (.slice ay Q.sn.length cy) (.slice az Q.lg.length cz) t7 wc):=(HI.out.on DX.out).mono hNb
     have hcb:(code==0)=false:=by simpa using hcd
     go_wp2
     go_roundw
     case rel=>exact ⟨K - 1,Q,_,_,t7,by omega,by go_num,HN,HQ⟩
     case measure=>simp [RowKit.intOf];omega
  ·have hK1:K=0:=by omega
   subst hK1
   obtain ⟨lo,hi,l1,l2,l3,iv⟩:=HI.out.mem
   obtain ⟨ay,cy,az,cz,ey,ez⟩:=iv.shape
   subst ey
   subst ez
   have hw6:Wr (fun x=>x=w.heap.size) wr ((((((wr.setCell ⟨w.heap.size,0,none⟩ (.int .i64 Q.tm)).setCell ⟨w.heap.size,1,none⟩ (.int .i64 Q.vt)).setCell ⟨w.heap.size,2,none⟩ (.int .i64 Q.si)).setCell ⟨w.heap.size,3,none⟩ (.int .i64 Q.st)).setCell ⟨w.heap.size,4,none⟩ (.slice ay Q.sn.length cy)).setCell ⟨w.heap.size,5,none⟩ (.slice az Q.lg.length cz)):=(Wr.setCell (p:=⟨w.heap.size,5,none⟩) (Wr.setCell (p:=⟨w.heap.size,4,none⟩) (Wr.setCell (p:=⟨w.heap.size,3,none⟩) (Wr.setCell (p:=⟨w.heap.size,2,none⟩) (Wr.setCell (p:=⟨w.heap.size,1,none⟩) (Wr.setCell (p:=⟨w.heap.size,0,none⟩) (Wr.refl (fun x=>x=w.heap.size) wr) rfl (.int .i64 Q.tm)) rfl (.int .i64 Q.vt)) rfl (.int .i64 Q.si)) rfl (.int .i64 Q.st)) rfl (.slice ay Q.sn.length cy)) rfl (.slice az Q.lg.length cz))
   obtain ⟨r0,r1,r2,r3,r4,r5⟩:=HI.out.var
   obtain ⟨q0,q1,q2,q3,q4,q5⟩:=HI.out.res
   have f0:=HI.out.rfz 0
   have f1:=HI.out.rfz 1
   have f2:=HI.out.rfz 2
   have f3:=HI.out.rfz 3
   have f4:=HI.out.rfz 4
   have f5:=HI.out.rfz 5
   have hgR:=HI.out.ge
   have hwz:=HI.out.res.lt
   have hFin:IvR w.heap.size ((((((wr.setCell ⟨w.heap.size,0,none⟩ (.int .i64 Q.tm)).setCell ⟨w.heap.size,1,none⟩ (.int .i64 Q.vt)).setCell ⟨w.heap.size,2,none⟩ (.int .i64 Q.si)).setCell ⟨w.heap.size,3,none⟩ (.int .i64 Q.st)).setCell ⟨w.heap.size,4,none⟩ (.slice ay Q.sn.length cy)).setCell ⟨w.heap.size,5,none⟩ (.slice az Q.lg.length cz)).heap.size ((((((wr.setCell ⟨w.heap.size,0,none⟩ (.int .i64 Q.tm)).setCell ⟨w.heap.size,1,none⟩ (.int .i64 Q.vt)).setCell ⟨w.heap.size,2,none⟩ (.int .i64 Q.si)).setCell ⟨w.heap.size,3,none⟩ (.int .i64 Q.st)).setCell ⟨w.heap.size,4,none⟩ (.slice ay Q.sn.length cy)).setCell ⟨w.heap.size,5,none⟩ (.slice az Q.lg.length cz)) (.slice ay Q.sn.length cy) (.slice az Q.lg.length cz) Q.sn Q.lg:=(iv.wr hw6 (fun b h1 h2 e=>by have e:b=w.heap.size:=e;omega)).up (by omega) (Nat.le_trans l2 hw6.size)
   have hDr:Drawn 2000 s v bs t t5 w ((((((wr.setCell ⟨w.heap.size,0,none⟩ (.int .i64 Q.tm)).setCell ⟨w.heap.size,1,none⟩ (.int .i64 Q.vt)).setCell ⟨w.heap.size,2,none⟩ (.int .i64 Q.si)).setCell ⟨w.heap.size,3,none⟩ (.int .i64 Q.st)).setCell ⟨w.heap.size,4,none⟩ (.slice ay Q.sn.length cy)).setCell ⟨w.heap.size,5,none⟩ (.slice az Q.lg.length cz)):=(Drawn.onBelow HS.out HI.out.dr (hw6.below (by omega) (fun b e=>by omega))).mono (by omega)
   go_wp2
   refine bodyPost_ret (v:=.agg #[.int .i64 Q.tm,.int .i64 Q.vt,.int .i64 Q.si,.int .i64 Q.st,.slice ay Q.sn.length cy,.slice az Q.lg.length cz]) (by simp [results,Tryz.results20,go_sem,q0,q1,q2,q3,q4,q5]) rfl ⟨Q,_,_,rfl,HQ.out,hFin,_,hDr⟩
end Go.Proofs.YtlliggfggadidaaGreatDoor
