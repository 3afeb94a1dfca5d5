import Derived.Deep.RegionLawGrows
import Derived.Test.YtehheaedbnfidaaGreatClWOwner2
import Derived.Test.YtehheaedbnfidaaGreatClMachC
set_option maxRecDepth 100000
namespace Go.Proofs.YtehheaedbnfidaaGreat
open Go.RowKit
def FinishC:Prop:=∀ (N:Cn)(X:XLoc)(m:Mh)(k d:Nat)(v f:Int)(w:World),MachM w N X m→k<N.nc→d<N.nd→(m.wk k).dom=(d:Int)→m.dn d k≤64→(m.tr d).length≤1000→
  Calls Tryz.prog 155 #[.pointer (some ⟨X.g,0,none⟩),.int .i64 k,.int .i64 v,.int .i64 f] w fun e w'=>e = .returned (.tuple #[])∧∃ X',MachM w' N X' (m.finish k v f)∧Goes w w' X X'
theorem perform_same (N:Cn)(m:Mh)(d:Nat)(o:OpT):(m.perform N d o).wk=m.wk∧(m.perform N d o).dn=m.dn∧(m.perform N d o).tr=m.tr:=by
 unfold Mh.perform
 dsimp only
 split <;> exact ⟨rfl,rfl,rfl⟩
def busyM (m:Mh)(d k:Nat):Mh:={ m with wk:=up1 m.wk k ⟨true,d,m.now⟩ }
set_option maxHeartbeats 6400000 in
theorem kbegin_any (hFin:FinishC)(N:Cn)(X:XLoc)(m:Mh)(d k:Nat)(o:OpT)(w:World)(h:MachM w N X m)(ok:MhOk N m)(hd:d<N.nd)(hk:k<N.nc) :
  Calls Tryz.prog 157 #[.pointer (some ⟨X.g,0,none⟩),.int .i64 d,.int .i64 k,.agg (opArr o)] w fun e w'=>e = .returned (.tuple #[])∧∃ X',MachM w' N X' (m.begin N d k o)∧Goes w w' X X':=by
 obtain ⟨i0,hi0,hz0,hz1,hz2⟩:=info_parts Tryz.infoInt
 obtain ⟨n1,n2,n3,n4,n5,n6,n7,n8,n9,n10,n11,n12,n13,n14,n15⟩:=h.nums
 have HR0:Row (w.alloc (.cells (opArr o) 69)) w.heap.size (opL o) 69:=heap_alloc_new w _
 have hb0:Below w.heap.size w (w.alloc (.cells (opArr o) 69)):=(Below.refl _ _).alloc (Nat.le_refl _) _
 have M0:=h.below hb0 (Nat.le_refl _)
 have c13:w.cell? ⟨X.g,13,none⟩=some (.int .i64 m.now):=by rw [h.row.cell];rfl
 have c19:w.cell? ⟨X.g,19,none⟩=some (.slice (some ⟨X.ck,0,none⟩) N.nc N.nc):=by rw [h.row.cell];rfl
 obtain ⟨k0,k1,k2⟩:=wk_at h.wks hk
 have f0:=h.wks.frozen (k*3)
 have f1:=h.wks.frozen (k*3+1)
 have f2:=h.wks.frozen (k*3+2)
 have lg:=h.row.lt
 have lk:=h.wks.lt
 have hgk:X.g≠X.ck:=fun e=>by have h1:=h.labs.g;rw [e,h.labs.ck] at h1;simp at h1
 have HNB:Hid (X.lab w.heap.size=none):=by
  unfold Hid
  rcases hX:X.lab w.heap.size with _|l
  · rfl
  ·
   have:=h.labs.lt w.heap.size (by rw [hX];simp)
   omega
 have hnw:w.heap.size≠X.ck:=by omega
 have HCK:Hid (X.lab X.ck=some (7,0)):=h.labs.ck
 have HTL:Hid ((m.tr d).length≤1000):=by have:=ok.trl n8 d;unfold Hid;omega
 have HDN:Hid (m.dn d k≤64):=Nat.le_trans (ok.dn d k) (ok.len d k)
 have HWL:Hid ((m.wt d).length≤3):=ok.wtl n8 hd
 have HPS:Hid (N.c.priv+N.c.shared≤96):=by unfold Hid;omega
 have HLN:Hid (0<N.ln):=by unfold Hid;omega
 have HBG:Hid (m.begin N d k o=if faultF N.c o≠0 then busyM m d k else if (o.1=0∧stateN N.nn m.nr k d (o.2.1 / N.ln).toNat=0)∨(o.1≠0∧stateN N.nn m.nr k d (o.2.1 / N.ln).toNat≠2∧stateN N.nn m.nr k d (o.2.1 / N.ln).toNat≠3) then { busyM m d k with wt:=up1 m.wt d (m.wt d++[(k:Int)]) } else ((if o.1=1 then { busyM m d k with nr:=putN N.nn m.nr k d (o.2.1 / N.ln).toNat 3 } else busyM m d k).perform N d o).finish k ((if o.1=1 then { busyM m d k with nr:=putN N.nn m.nr k d (o.2.1 / N.ln).toNat 3 } else busyM m d k).valueOf N d o) 0):=rfl
 have HM0:Hid _:=M0
 have HRR:Hid (Row (w.alloc (.cells (opArr o) 69)) w.heap.size (opL o) 69):=HR0
 have HG0:Hid (Goes w (w.alloc (.cells (opArr o) 69)) X X):=Goes.of_below hb0
 have hck:=wk_set h.wks k ⟨true,d,m.now⟩
 have htk:Touch (fun b=>b=X.ck) w (((w.setCell ⟨X.ck,k*3,none⟩ (.bool true)).setCell ⟨X.ck,k*3+1,none⟩ (.int .i64 d)).setCell ⟨X.ck,k*3+2,none⟩ (.int .i64 m.now)):=((Touch.setCell (F:=fun b=>b=X.ck) _ _ _ _ rfl).trans (Touch.setCell (F:=fun b=>b=X.ck) _ _ _ _ rfl)).trans (Touch.setCell (F:=fun b=>b=X.ck) _ _ _ _ rfl)
 have hS:=h.setWk htk hck
 have HS:Hid (MachM (((w.setCell ⟨X.ck,k*3,none⟩ (.bool true)).setCell ⟨X.ck,k*3+1,none⟩ (.int .i64 d)).setCell ⟨X.ck,k*3+2,none⟩ (.int .i64 m.now)) N X (busyM m d k)∧Goes w (((w.setCell ⟨X.ck,k*3,none⟩ (.bool true)).setCell ⟨X.ck,k*3+1,none⟩ (.int .i64 d)).setCell ⟨X.ck,k*3+2,none⟩ (.int .i64 m.now)) X X):=⟨hS,Goes.of_touch htk (fun b hb=>by subst hb;exact h.labs.ck)⟩
 have HSZ:Hid ((((w.setCell ⟨X.ck,k*3,none⟩ (.bool true)).setCell ⟨X.ck,k*3+1,none⟩ (.int .i64 d)).setCell ⟨X.ck,k*3+2,none⟩ (.int .i64 m.now)).heap.size=w.heap.size):=by unfold Hid;simp [World.setCell]
 clear n1 n2 n3 n4 n5 n6 n7 h ok HR0 hb0 M0 hck htk hS
 go_enter Tryz.func157,Tryz.ntmps157
 go_wp2_with fail
 go_cut [] (fun wx=>MachM wx N X (busyM m d k)∧Goes w wx X X∧Row wx w.heap.size (opL o) 69)
 case first=>
  go_region_with fail
  all_goals go_wp2_with fail
  all_goals go_meet
  all_goals
   have hb:=((Below.refl (((w.setCell ⟨X.ck,k*3,none⟩ (.bool true)).setCell ⟨X.ck,k*3+1,none⟩ (.int .i64 d)).setCell ⟨X.ck,k*3+2,none⟩ (.int .i64 m.now)).heap.size (((w.setCell ⟨X.ck,k*3,none⟩ (.bool true)).setCell ⟨X.ck,k*3+1,none⟩ (.int .i64 d)).setCell ⟨X.ck,k*3+2,none⟩ (.int .i64 m.now))).alloc (Nat.le_refl _) (.cells (opArr o) 69)).drew
   refine ⟨HS.out.1.below hb (Nat.le_refl _),HS.out.2.trans (Goes.of_below hb),?_⟩
   have hn:=heap_alloc_new (((w.setCell ⟨X.ck,k*3,none⟩ (.bool true)).setCell ⟨X.ck,k*3+1,none⟩ (.int .i64 d)).setCell ⟨X.ck,k*3+2,none⟩ (.int .i64 m.now)) (.cells (opArr o) 69)
   rw [HSZ.out] at hn
   exact hn
 case rest=>
  obtain ⟨M1,G1,R1⟩:=hcut
  clear c13 c19 k0 k1 k2 f0 f1 f2 lg lk
  have b0:wc.cell? ⟨w.heap.size,0,none⟩=some (.int .i64 o.1):=R1.cell 0
  have b1:wc.cell? ⟨w.heap.size,1,none⟩=some (.int .i64 o.2.1):=R1.cell 1
  have b2:wc.cell? ⟨w.heap.size,2,none⟩=some (.int .i64 o.2.2):=R1.cell 2
  have hF:=kfault_any N X (busyM m d k) o wc M1
  have HM1:Hid _:=M1
  have HG1:Hid _:=G1
  have HR1:Hid (Row wc w.heap.size (opL o) 69):=R1
  have lR1:=R1.lt
  clear M1 G1 R1
  go_wp2_with fail
  refine hF.mono ?_;rintro e w1 ⟨rfl,hb1⟩
  have M2:=HM1.out.below hb1 (Nat.le_refl _)
  have HG2:Hid (Goes w w1 X X):=HG1.out.trans (Goes.of_below hb1)
  have R2:Row w1 w.heap.size (opL o) 69:=Row.below HR1.out hb1 lR1
  clear hF b0 b1 b2
  by_cases a1:faultF N.c o=0
  ·
   have HB2:Hid _:=HBG.out
   rw [if_neg (by simpa using a1)] at HB2
   have hfn:=fault_free a1
   have hfz:(faultF N.c o != 0)=false:=by simp [a1]
   obtain ⟨x,hx⟩:∃ x,x=(o.2.1 / (N.ln:Int)).toNat:=⟨_,rfl⟩
   have HX:Hid _:=hx
   rw [← hx] at HB2
   have hx1:x≤1000:=by
    have q1:o.2.1 / (N.ln:Int)≤o.2.1:=Int.ediv_le_self _ hfn.1
    have:=HPS.out
    omega
   have hl0:0≤o.2.1∧o.2.1≤1000:=by have:=HPS.out;omega
   have hL:=kline_any N X (busyM m d k) o x w1 M2 hl0.1 hl0.2 HX
   have HM2:Hid _:=M2
   have HR2:Hid (Row w1 w.heap.size (opL o) 69):=R2
   have c0:w1.cell? ⟨w.heap.size,0,none⟩=some (.int .i64 o.1):=R2.cell 0
   have c1:w1.cell? ⟨w.heap.size,1,none⟩=some (.int .i64 o.2.1):=R2.cell 1
   have c2:w1.cell? ⟨w.heap.size,2,none⟩=some (.int .i64 o.2.2):=R2.cell 2
   have lR2:=R2.lt
   clear HBG a1 M2 R2 hx
   go_wp2_with fail
   refine hL.mono ?_;rintro e w2 ⟨rfl,hb2⟩
   have M3:=HM2.out.below hb2 (Nat.le_refl _)
   have HG3:Hid (Goes w w2 X X):=HG2.out.trans (Goes.of_below hb2)
   have R3:Row w2 w.heap.size (opL o) 69:=Row.below HR2.out hb2 lR2
   have c17:w2.cell? ⟨X.g,17,none⟩=some (.slice (some ⟨X.n.r,0,none⟩) N.nc X.n.rc):=by rw [M3.row.cell];rfl
   have hSt:=nstate_any N.nc N.nn X.n m.nr X.g 17 k x d w2 M3.near c17 hk (by omega)
   have HM3:Hid _:=M3
   have HR3:Hid (Row w2 w.heap.size (opL o) 69):=R3
   have lR3:=R3.lt
   clear hL M3 R3 c0 c1 c2
   go_wp2_with fail
   refine hSt.mono ?_;rintro e w3 ⟨rfl,hb3⟩
   have M4:=HM3.out.below hb3 (Nat.le_refl _)
   have HG4:Hid (Goes w w3 X X):=HG3.out.trans (Goes.of_below hb3)
   have R4:Row w3 w.heap.size (opL o) 69:=Row.below HR3.out hb3 lR3
   have c0:w3.cell? ⟨w.heap.size,0,none⟩=some (.int .i64 o.1):=R4.cell 0
   have c1:w3.cell? ⟨w.heap.size,1,none⟩=some (.int .i64 o.2.1):=R4.cell 1
   have c2:w3.cell? ⟨w.heap.size,2,none⟩=some (.int .i64 o.2.2):=R4.cell 2
   have hSf:=ksuffices_any o (stateN N.nn m.nr k d x) w3
   have HM4:Hid _:=M4
   have HR4:Hid (Row w3 w.heap.size (opL o) 69):=R4
   have lR4:=R4.lt
   clear hSt M4 R4 c17
   go_wp2_with fail
   refine hSf.mono ?_;rintro e w4 ⟨rfl,hb4⟩
   have M5:=HM4.out.below hb4 (Nat.le_refl _)
   have HG5:Hid (Goes w w4 X X):=HG4.out.trans (Goes.of_below hb4)
   have R5:Row w4 w.heap.size (opL o) 69:=Row.below HR4.out hb4 lR4
   clear hSf c0 c1 c2
   have HSB:Hid (sufficesB o (stateN N.nn m.nr k d x)=!decide ((o.1=0∧stateN N.nn m.nr k d x=0)∨(o.1≠0∧stateN N.nn m.nr k d x≠2∧stateN N.nn m.nr k d x≠3))):=by
    unfold Hid sufficesB
    by_cases e1:o.1=0 <;> by_cases e2:stateN N.nn m.nr k d x=0 <;> by_cases e3:stateN N.nn m.nr k d x=2 <;> by_cases e4:stateN N.nn m.nr k d x=3 <;> simp [e1,e2,e3,e4]
   by_cases a2:(o.1=0∧stateN N.nn m.nr k d x=0)∨(o.1≠0∧stateN N.nn m.nr k d x≠2∧stateN N.nn m.nr k d x≠3)
   ·
    rw [if_pos a2] at HB2
    have hsf:sufficesB o (stateN N.nn m.nr k d x)=false:=by rw [HSB.out];simp [a2]
    rw [hsf]
    clear HSB hsf a2
    have HM5:Hid _:=M5
    have c18:w4.cell? ⟨X.g,18,none⟩=some (.slice (some ⟨X.dm,0,none⟩) N.nd X.dc):=by rw [M5.row.cell];rfl
    obtain ⟨_,_,d2,_⟩:=dom_at M5 hd
    have lg:=M5.row.lt
    have ld:=M5.dom.lt
    have fd:=M5.dom.frozen (d*4+2)
    have hwl:X.wl d=(m.wt d).length:=(M5.wait d hd).1
    have hl3:X.wl d≤3:=by have:=HWL.out;omega
    have LM:Hid (X.wl d+1≤maxLen):=by unfold Hid maxLen;omega
    have L8:Hid ((X.wl d+1)*8≤140737488355328):=by unfold Hid;omega
    have HWLL:Hid _:=hwl
    have hq:=(M5.wait d hd).2
    clear R5 hwl
    have hbA:Below w4.heap.size w4 (w4.alloc (.cells #[.int .i64 k] 3)).drew:=((Below.refl _ _).alloc (Nat.le_refl _) _).drew
    have MA:=M5.below hbA (Nat.le_refl _)
    have HGA:Hid (Goes w (w4.alloc (.cells #[.int .i64 k] 3)).drew X X):=HG5.out.trans (Goes.of_below hbA)
    by_cases a4:X.wl d<X.wc d
    ·
     rcases hq with ⟨q1,q2,q3⟩ | ⟨gq,off,cur,q1,q2,q3,q4,q5,q6⟩
     · omega
     have hgd:gq≠X.dm:=fun e=>by
      have h1:=M5.labs.wt d hd gq off q1
      rw [e,M5.labs.dm] at h1
      simp at h1
     have lq:=q2.lt
     have q2A:Row (w4.alloc (.cells #[.int .i64 k] 3)).drew gq cur 3:=q2.below hbA lq
     have HPR:Hid _:=MA.pushRoom hd (k:Int) q1 q2A a4 q4 q5 q6
     have HSP:Hid (∀ j,j<[Value.int .i64 (k:Int)].length→((w4.alloc (.cells #[.int .i64 k] 3)).drew.cell? ⟨gq,off+X.wl d*1+j,none⟩).isSome=true∧(w4.alloc (.cells #[.int .i64 k] 3)).drew.frozen? ⟨gq,off+X.wl d*1+j,none⟩=false):=fun j hj=>by
      have ej:j=0:=by simpa using hj
      subst ej
      refine ⟨?_,q2A.frozen _⟩
      rw [q2A.cell,List.getElem?_eq_getElem (show off+X.wl d*1+0<cur.length by omega)]
      rfl
     have hgg:X.g≠gq:=fun e=>by
      have h1:=M5.labs.wt d hd gq off q1
      rw [← e,M5.labs.g] at h1
      simp at h1
     have DD:=MA.dom.setOther (off+X.wl d) (.int .i64 (k:Int)) (Ne.symm hgd)
     have RR:=MA.row.setCellOther (off+X.wl d) (.int .i64 (k:Int)) hgg
     obtain ⟨WW,hWW⟩:∃ WW,(w4.alloc (.cells #[.int .i64 k] 3)).drew.setCell ⟨gq,off+X.wl d,none⟩ (.int .i64 (k:Int))=WW:=⟨_,rfl⟩
     have HEQ:Hid ((w4.alloc (.cells #[.int .i64 k] 3)).drew.setCells gq (off+X.wl d*1) [.int .i64 (k:Int)]=WW):=by unfold Hid;rw [Nat.mul_one];exact hWW
     rw [hWW] at DD RR
     rw [hWW] at HPR
     have g0:WW.cell? ⟨X.g,18,none⟩=some (.slice (some ⟨X.dm,0,none⟩) N.nd X.dc):=by rw [RR.cell];rfl
     have g1:WW.cell? ⟨X.dm,d*4+2,none⟩=some (.slice (some ⟨gq,off,none⟩) (X.wl d) (X.wc d)):=by
      rw [DD.cell (by omega),show (d*4+2) / 4=d by omega,show (d*4+2)%4=2 by omega,← q1];rfl
     have g2:=DD.frozen (d*4+2)
     rw [q1] at d2
     clear M5 MA q1 q2 q2A q6 DD RR hWW
     go_wp2_with fail
     go_region_law
      ((refine step_append_room (by rfl) _ _ _ (by rfl) 3 i0 1 Tryz.underlying25 hi0 hz1 gq off (X.wl d) (X.wc d) (by rfl) ⟨w4.heap.size,0,none⟩ 1 1 [.int .i64 k] (by rfl) (by rfl) (World.news_of_block (cs:=#[.int .i64 k]) (t:=3) (fr:=(0,0)) (heap_alloc_new w4 _)) (by simp [Value.oneCell']) (by omega) HSP.out ?_;rw [HEQ.out]))
     all_goals go_wp2
     all_goals refine bodyPost_ret (results_none rfl _ _ _) rfl ?_
     all_goals exact ⟨rfl,_,by rw [HB2.out];exact HPR.out.1,HGA.out.trans HPR.out.2⟩
    ·
     have hlo:((m.wt d).map (Value.int .i64)).length=X.wl d*1:=by rw [List.length_map,HWLL.out];omega
     have hnone:X.wa d=none→X.wl d=0∧X.wc d=0:=fun e=>by
      rcases hq with ⟨q1,q2,q3⟩|⟨gq,off,cur,q1,_⟩
      · exact ⟨by rw [HWLL.out,show m.wt d=[] from q3];rfl,q2⟩
      · rw [e] at q1;cases q1
     have holds:∀ b,X.wa d=some b→∀ j u,((m.wt d).map (Value.int .i64))[j]? = some u→(w4.alloc (.cells #[.int .i64 k] 3)).drew.cell? (b.add j)=some u:=fun b eb j u hj=>by
      rcases hq with ⟨q1,_⟩|⟨gq,off,cur,q1,q2,q3,q4,q5,q6⟩
      · rw [eb] at q1;cases q1
      ·
       rw [eb] at q1
       simp only [Option.some.injEq] at q1
       subst q1
       have q2A:Row (w4.alloc (.cells #[.int .i64 k] 3)).drew gq cur 3:=q2.below hbA q2.lt
       have hjl:j<(m.wt d).length:=by
        have:=(List.getElem?_eq_some_iff.1 hj).1
        simpa using this
       rw [add_plain',q2A.cell,q6 j (by rw [HWLL.out];exact hjl)]
       rw [List.getElem?_map,List.getElem?_eq_getElem hjl] at hj
       rw [← hj]
       show some (Value.int .i64 ((m.wt d).getD j 0))=_
       rw [List.getD_eq_getElem?_getD,List.getElem?_eq_getElem hjl]
       rfl
     have HLO:Hid _:=hlo
     have HNO:Hid _:=hnone
     have HHO:Hid _:=holds
     have HFU:Hid (X.wc d<X.wl d+1):=by unfold Hid;omega
     have DD:=MA.dom
     have hdl:=DD.lt
     have RR:=MA.row
     have hrl:=RR.lt
     have HBA:Hid _:=hbA
     clear hq hlo hnone holds MA hbA
     go_wp2_with fail
     go_region_law
      ((refine step_append_grows (by rfl) _ _ _ (by rfl) 3 i0 (.int .i64 0) 1 8 Tryz.underlying25 hi0 hz0 hz1 hz2 rfl (by decide) (X.wa d) (X.wl d) (X.wc d) ((m.wt d).map (Value.int .i64)) (by rfl) HNO.out HLO.out HHO.out ⟨w4.heap.size,0,none⟩ 1 1 [.int .i64 k] (by rfl) (by rfl) (World.news_of_block (cs:=#[.int .i64 k]) (t:=3) (fr:=(0,0)) (heap_alloc_new w4 _)) (by simp [Value.oneCell']) HFU.out LM.out L8.out ?_;intro v' w' hown hgrow;obtain ⟨gg,cap,rfl,hgb,hgl⟩:=World.ownsRow.form hown (by omega);have DD2:=DD.same (hgrow.block X.dm hdl (by simp));have RR2:=RR.same (hgrow.block X.g hrl (by simp));have g0:w'.cell? ⟨X.g,18,none⟩=some (.slice (some ⟨X.dm,0,none⟩) N.nd X.dc):=by { rw [RR2.cell];rfl };have g1:w'.cell? ⟨X.dm,d*4+2,none⟩=some (.slice (X.wa d) (X.wl d) (X.wc d)):=by { rw [DD2.cell (by omega),show (d*4+2) / 4=d by omega,show (d*4+2)%4=2 by omega];rfl };have g2:=DD2.frozen (d*4+2)))
     all_goals go_wp2
     all_goals refine bodyPost_ret (results_none rfl _ _ _) rfl ?_
     all_goals
      have hP:=HM5.out.pushGrow hd (k:Int) HBA.out hgrow hown
      exact ⟨rfl,_,by rw [HB2.out];exact hP.1,HG5.out.trans hP.2⟩
   ·
    rw [if_neg a2] at HB2
    have hsf:sufficesB o (stateN N.nn m.nr k d x)=true:=by rw [HSB.out];simp [a2]
    rw [hsf]
    clear HSB hsf a2
    have c0:w4.cell? ⟨w.heap.size,0,none⟩=some (.int .i64 o.1):=R5.cell 0
    have c1:w4.cell? ⟨w.heap.size,1,none⟩=some (.int .i64 o.2.1):=R5.cell 1
    have c2:w4.cell? ⟨w.heap.size,2,none⟩=some (.int .i64 o.2.2):=R5.cell 2
    by_cases a3:o.1=1
    ·
     have a3b:(o.1==1)=true:=by simp [a3]
     simp only [a3,if_true] at HB2
     have c17:w4.cell? ⟨X.g,17,none⟩=some (.slice (some ⟨X.n.r,0,none⟩) N.nc X.n.rc):=by rw [M5.row.cell];rfl
     have hP:=nput_any N.nc N.nn X.n m.nr X.g 17 k x d 3 w4 M5.near c17 hk (by omega)
     have HM5:Hid _:=M5
     have HR5:Hid (Row w4 w.heap.size (opL o) 69):=R5
     have hno:¬X.n.own N.nc w.heap.size:=fun hh=>by
      have h2:=M5.labs.no _ hh
      rw [HNB.out] at h2
      cases h2
     clear a3 M5 R5
     go_wp2_with fail
     refine hP.mono ?_;rintro e w5 ⟨rfl,hN5,hT5⟩
     have M6:=HM5.out.setNear hN5 hT5
     have HG6:Hid (Goes w w5 X X):=HG5.out.trans (Goes.of_touch hT5 HM5.out.labs.no)
     have R6:Row w5 w.heap.size (opL o) 69:=touch_row (w:=w4) (A:=opL o) HR5.out hT5 hno
     have hPf:=kperform_any N X _ d o x w5 M6 hd hl0.1 hl0.2 HX
     clear c0 c1 c2 c17 hP hN5 hT5
     have c0:w5.cell? ⟨w.heap.size,0,none⟩=some (.int .i64 o.1):=R6.cell 0
     have c1:w5.cell? ⟨w.heap.size,1,none⟩=some (.int .i64 o.2.1):=R6.cell 1
     have c2:w5.cell? ⟨w.heap.size,2,none⟩=some (.int .i64 o.2.2):=R6.cell 2
     clear M6 R6
     go_wp2_with fail
     refine hPf.mono ?_;rintro e w6 ⟨rfl,hM7,hG7⟩
     have hsame:=perform_same N { busyM m d k with nr:=putN N.nn m.nr k d x 3 } d o
     have hFn:=hFin N X _ k d (Mh.valueOf N { busyM m d k with nr:=putN N.nn m.nr k d x 3 } d o) 0 w6 hM7 hk hd (by rw [hsame.1];simp [busyM,up1]) (by rw [hsame.2.1];exact HDN.out) (by rw [hsame.2.2];exact HTL.out)
     have HG7:Hid _:=hG7
     clear c0 c1 c2 hPf hM7 hG7 hsame
     go_wp2_with fail
     refine hFn.mono ?_;rintro e w7 ⟨rfl,X',hM8,hG8⟩
     go_wp2
     refine bodyPost_end (results_none rfl _ _ _) rfl ?_
     exact ⟨rfl,X',by rw [HB2.out];exact hM8,(HG6.out.trans HG7.out).trans hG8⟩
    ·
     have a3b:(o.1==1)=false:=by simp [a3]
     simp only [a3,if_false] at HB2
     have hPf:=kperform_any N X _ d o x w4 M5 hd hl0.1 hl0.2 HX
     clear a3 M5 R5
     go_wp2_with fail
     refine hPf.mono ?_;rintro e w6 ⟨rfl,hM7,hG7⟩
     have hsame:=perform_same N (busyM m d k) d o
     have hFn:=hFin N X _ k d (Mh.valueOf N (busyM m d k) d o) 0 w6 hM7 hk hd (by rw [hsame.1];simp [busyM,up1]) (by rw [hsame.2.1];exact HDN.out) (by rw [hsame.2.2];exact HTL.out)
     have HG7:Hid _:=hG7
     clear c0 c1 c2 hPf hM7 hG7 hsame
     go_wp2_with fail
     refine hFn.mono ?_;rintro e w7 ⟨rfl,X',hM8,hG8⟩
     go_wp2
     refine bodyPost_end (results_none rfl _ _ _) rfl ?_
     exact ⟨rfl,X',by rw [HB2.out];exact hM8,(HG5.out.trans HG7.out).trans hG8⟩
  ·
   have HB2:Hid _:=HBG.out
   rw [if_pos a1] at HB2
   have hfz:(faultF N.c o != 0)=true:=by simp [a1]
   have HM2:Hid _:=M2
   clear HBG a1 M2 R2
   go_wp2
   refine bodyPost_ret (results_none rfl _ _ _) rfl ?_
   exact ⟨rfl,X,by rw [HB2.out];exact HM2.out,HG2.out⟩
end Go.Proofs.YtehheaedbnfidaaGreat
