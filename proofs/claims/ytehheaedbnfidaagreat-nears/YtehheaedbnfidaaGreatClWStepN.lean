import Derived.Test.YtehheaedbnfidaaGreatClWPlaysZ
import Derived.Test.YtehheaedbnfidaaGreatClRefNe
set_option maxRecDepth 100000
namespace Go.Proofs.YtehheaedbnfidaaGreat
open Go.RowKit
attribute [local go_sem ↓] Go.wp_at_zero Go.wp_at_succ
set_option maxHeartbeats 3200000 in
theorem step_neared (gw base:Nat)(o:Own)(n mc g:Nat)(e p b:Value)(ts:List Int)(os:List (Int × Int × Int))(st:St)(w:World)(h:WSt w gw base o (.slice (some ⟨g,0,none⟩) n mc) e p b ts os)(hr:StR st)(hk:st.k=18)(hpos:0<n)(hnm:n≤mc)(hmm:mc≤maxLen)(hg:g<w.heap.size)
  (px pl:Nat→Nat) (hat:∀ j,j<n→w.cell? ⟨g,j*2,none⟩=some (.pointer (some ⟨px j,0,none⟩))∧w.cell? ⟨g,j*2+1,none⟩=some (.pointer (some ⟨pl j,0,none⟩))) (R:World→Prop)
  (hgiven:∀ (j:Nat) (w2:World),j<n→Below w.heap.size w w2→Calls Tryz.prog 17 #[.pointer (some ⟨gw,0,none⟩),.agg #[.pointer (some ⟨px j,0,none⟩),.pointer (some ⟨pl j,0,none⟩)],.int .i64 st.b] w2 fun x w'=>x = .returned (.bool true)∧R w') :
  Calls Tryz.prog 9 #[.pointer (some ⟨gw,0,none⟩),opV st] w fun x w'=>x = .returned (.bool true)∧R w':=by
 have HP:Hid _:=hgiven
 clear hgiven
 obtain ⟨k,a,bb,cc,dd⟩:=st
 simp only at hk
 subst hk
 have bW:Below w.heap.size w (w.alloc (.cells (opA ⟨18,a,bb,cc,dd⟩) 36)):=(Below.refl _ _).alloc (Nat.le_refl _) _
 have rO:Row (w.alloc (.cells (opA ⟨18,a,bb,cc,dd⟩) 36)) w.heap.size [.int .i64 18,.int .i64 a,.int .i64 bb,.int .i64 cc,.int .i64 dd] 36:=heap_alloc_new w _
 have hW:=h.below bW rfl
 unfold maxLen at hmm
 go_enter Tryz.func9,Tryz.ntmps9
 go_wp2_with fail
 refine (owner_other gw ⟨18,a,bb,cc,dd⟩ _ (by simp only [];omega)).mono ?_
 rintro x w1 ⟨rfl,b1⟩
 have h1:=hW.below b1 rfl
 have rO1:=rO.below b1 rO.lt
 have bW1:=below_step bW b1 rfl
 have q1:∀ i,w1.cell? ⟨w.heap.size,i,none⟩=(opA ⟨18,a,bb,cc,dd⟩)[i]? := fun i=>by rw [rO1.cell];simp
 have c3:w1.cell? ⟨gw,3,none⟩=some (.slice (some ⟨g,0,none⟩) n mc):=by rw [h1.row.cell];rfl
 have ncl:((n:Int)==0)=false:=by simp;exact Nat.pos_iff_ne_zero.1 hpos
 clear b1 bW hW rO
 have pb:=pickZ_bd a n (by omega)
 obtain ⟨j,hj⟩:=Int.eq_ofNat_of_zero_le pb.1
 have hjl:j<n:=by have:=pb.2;omega
 have hpick:∀ w:World,Calls Tryz.prog 13 #[.int .i64 a,.int .i64 n] w fun e w'=>e = .returned (.int .i64 (j:Int))∧w'=w:=fun w=>by
  have:=pick_any a n w hr.a1 hr.a2 (by omega) (by omega)
  rw [hj] at this
  exact this
 have HK:Hid _:=hpick
 obtain ⟨e0',e1'⟩:=hat j hjl
 have e0:w1.cell? ⟨g,j*2,none⟩=some (.pointer (some ⟨px j,0,none⟩)):=(bW1.cell (p:=⟨g,j*2,none⟩) hg).trans e0'
 have e1:w1.cell? ⟨g,j*2+1,none⟩=some (.pointer (some ⟨pl j,0,none⟩)):=(bW1.cell (p:=⟨g,j*2+1,none⟩) hg).trans e1'
 have c1:w1.cell? ⟨w.heap.size,1,none⟩=some (.int .i64 a):=q1 1
 have hj0:(0:Int)≤(j:Int):=by omega
 have hj1:(j:Int)<(n:Int):=by omega
 have nw:=h1.row.lt
 have ng:g<w1.heap.size:=Nat.lt_of_lt_of_le hg bW1.size
 have HPJ:=HP.out j
 have HPJ':Hid _:=HPJ
 generalize px j=xj at *
 generalize pl j=lj at *
 clear hpick hj pb e0' e1' hat HPJ
 go_wp2_with fail
 go_region_held3 (fun w'=>w'.cell? ⟨gw,3,none⟩=some (.slice (some ⟨g,0,none⟩) n mc)∧w'.cell? ⟨w.heap.size,1,none⟩=some (.int .i64 a)∧w'.cell? ⟨g,j*2,none⟩=some (.pointer (some ⟨xj,0,none⟩))∧w'.cell? ⟨g,j*2+1,none⟩=some (.pointer (some ⟨lj,0,none⟩))) (go_keep) (first | (go_at_call 13;refine (HK.out _).mono ?_;rintro e w' ⟨rfl,rfl⟩))
 all_goals
  have bX:Below w1.heap.size w1 (w1.alloc (.cells #[.pointer (some ⟨xj,0,none⟩),.pointer (some ⟨lj,0,none⟩)] 50)).drew:=((Below.refl _ _).alloc (Nat.le_refl _) _).drew
  have rP:Row (w1.alloc (.cells #[.pointer (some ⟨xj,0,none⟩),.pointer (some ⟨lj,0,none⟩)] 50)).drew w1.heap.size [.pointer (some ⟨xj,0,none⟩),.pointer (some ⟨lj,0,none⟩)] 50:=heap_alloc_new w1 _
  have rO2:=rO1.below bX rO1.lt
  have bW2:=below_step bW1 bX rfl
  clear e0 e1 c1 c3 q1 bX
  generalize (w1.alloc (.cells #[.pointer (some ⟨xj,0,none⟩),.pointer (some ⟨lj,0,none⟩)] 50)).drew=w2 at *
  have q1:=row_q rP
  have q2:=row_q rO2
  go_wp2_with fail
  refine (HPJ'.out w2 hjl bW2).mono ?_
  rintro x w3 ⟨rfl,r3⟩
  have HR3:Hid _:=r3
  clear r3
  go_wp2
  go_ret
  exact ⟨rfl,HR3.out⟩
end Go.Proofs.YtehheaedbnfidaaGreat
namespace Go.Proofs.YtehheaedbnfidaaGreat
open Go.RowKit
theorem Tryz.infoCps:(Tryz.prog.info? 60).map (fun i=>(i.zero,i.size,i.bytes))=some (some (.slice none 0 0),1,24):=by kernel_rfl
def mkP (i:Nat):Cp:=⟨-1000-i,-1000-i,-1000-i⟩
theorem cp_cells (es:List Cp){q:Nat}(hq:q<es.length):(es.flatMap cpL)[q*3]? = some (.int .i64 (es.getD q cpE).dom)∧(es.flatMap cpL)[q*3+1]? = some (.int .i64 (es.getD q cpE).line)∧(es.flatMap cpL)[q*3+2]? = some (.int .i64 (es.getD q cpE).st):=by
 have h:∀ r,r<3→(es.flatMap cpL)[q*3+r]? = (cpL (es.getD q cpE))[r]? := fun r hr=>by
  rw [flat_at cpL 3 (fun _=>rfl) es q r hr,List.getD_eq_getElem?_getD,List.getElem?_eq_getElem hq]
  rfl
 exact ⟨h 0 (by omega),h 1 (by omega),h 2 (by omega)⟩
theorem cp_set:∀ (es:List Cp)(q:Nat)(v:Cp),q<es.length→(((es.flatMap cpL).set (q*3) (.int .i64 v.dom)).set (q*3+1) (.int .i64 v.line)).set (q*3+2) (.int .i64 v.st)=(es.set q v).flatMap cpL
 | [],q,v,h=>by simp at h
 | x::xs,0,v,_=>by simp [cpL]
 | x::xs,q+1,v,h=>by
  have ih:=cp_set xs q v (by simpa using h)
  rw [List.set_cons_succ,List.flatMap_cons,List.flatMap_cons,← ih]
  rw [show (q+1)*3=(cpL x).length+q*3 by show _=3+q*3;omega]
  simp only [Nat.add_assoc,List.set_append_right _ _ (Nat.le_add_right _ _),Nat.add_sub_cancel_left]
theorem cps_all {A:List Cp}{len:Nat}{v:Cp}(hl:A.length=len)(h:∀ x,x<len→A.getD x cpE=v):A=List.replicate len v:=by
 apply List.ext_getElem
 · simp [hl]
 ·
  intro i h1 h2
  have:=h i (by omega)
  rw [List.getD_eq_getElem?_getD,List.getElem?_eq_getElem h1] at this
  simpa using this
theorem cps_map (f:Nat→Cp)(n:Nat):cpsL f n=((List.range n).map f).flatMap cpL:=by
 unfold cpsL
 rw [List.flatMap_map]
theorem cps_congr {f g:Nat→Cp}{n:Nat}(h:∀ p,p<n→f p=g p):cpsL f n=cpsL g n:=by
 rw [cps_map,cps_map]
 congr 1
 exact List.map_congr_left (fun p hp=>h p (List.mem_range.1 hp))
set_option maxHeartbeats 6400000 in
theorem neared_good (W w:World)(o:Own)(ea:Option Addr)(en ec:Nat)(e b:Value)(ts:List Int)(os:List (Int × Int × Int))(zone:Nat→Option Nat)(n:Nat)(X:Nat→XLoc)(m:Nat→Mh)(L:Nat→RLoc)(M:Nat→RDat)(ma:Option Addr)(mc:Nat)(h:MI W w o e (.slice ea en ec) b ts os zone n X m L M ma mc)
  (aE:Nat→Option Addr) (lE:Nat→Nat) (hE:Outs w W.heap.size 60 62 markP (.slice ea en ec) en aE lE) (hEz:∀ g,OB (.slice ea en ec) en aE lE g→¬MZ W.heap.size o zone (.slice ma n mc) g) (j:Nat) (hj:j<n) (d:Nat) (hd:(d:Int)<(M j).c.cores) (hbig:(en+1)*24≤140737488355328) :
  Calls Tryz.prog 17 #[.pointer (some ⟨W.heap.size,0,none⟩),.agg (prA (X j).g (L j).gr),.int .i64 d] w fun x w'=>x = .returned (.bool true)∧∃ ea' ec' aE' lE',MI W w' o e (.slice ea' (en+1) ec') b ts os zone n X m L M ma mc∧Outs w' W.heap.size 60 62 markP (.slice ea' (en+1) ec') (en+1) aE' lE'∧
   Touch (fun g=>g=W.heap.size∨(Value.slice ea en ec).ownBlock=some g) w w'∧∀ g,g<w.heap.size→OB (.slice ea' (en+1) ec') (en+1) aE' lE' g→OB (.slice ea en ec) en aE lE g:=by
 have hb0:Below w.heap.size w (w.alloc (.cells (prA (X j).g (L j).gr) 50)):=(Below.refl _ _).alloc (Nat.le_refl _) _
 have rP:Row (w.alloc (.cells (prA (X j).g (L j).gr) 50)) w.heap.size [.pointer (some ⟨(X j).g,0,none⟩),.pointer (some ⟨(L j).gr,0,none⟩)] 50:=heap_alloc_new w _
 obtain ⟨wb,hwb⟩:∃ wb,w.alloc (.cells (prA (X j).g (L j).gr) 50)=wb:=⟨_,rfl⟩
 rw [hwb] at hb0 rP
 have H0:=h.below hb0
 have hz:=(h.ms.ref j hj).right
 have hT0:=(h.ms.ref j hj).T0
 have hT1:=(h.ms.ref j hj).T1
 have hpd:=h.ms.pair j hj
 have hdc:d<(M j).c.cores.toNat:=by omega
 have hF:=wNear_good (cnOf (M j).c) (X j) (m j) d wb (H0.ms.mach j hj) hdc
 have hlen:(cnOf (M j).c).nn≤4:=by
  obtain ⟨_,_,_,_,hnear,_⟩:=shape_bounds (chk_zero hz).1
  show (M j).c.near.toNat≤4
  omega
 have b1:Below wb.heap.size wb (wb.alloc (.cells (cpsL ((m j).nr d) (cnOf (M j).c).nn).toArray 62)):=(Below.refl _ _).alloc (Nat.le_refl _) _
 have rT:Row (wb.alloc (.cells (cpsL ((m j).nr d) (cnOf (M j).c).nn).toArray 62)) wb.heap.size (cpsL ((m j).nr d) (cnOf (M j).c).nn) 62:=heap_alloc_new wb _
 obtain ⟨w1,hw1⟩:∃ w1,wb.alloc (.cells (cpsL ((m j).nr d) (cnOf (M j).c).nn).toArray 62)=w1:=⟨_,rfl⟩
 rw [hw1] at hF b1 rT
 have H1:=H0.below b1
 have hR0:=rNear_good (L j) (M j) d w1 (H1.ms.ref j hj) ((h.ms.cfg j hj).below H1.bel (Nat.le_refl _)) hdc
 have hR:Calls Tryz.prog 46 #[.pointer (some ⟨(L j).gr,0,none⟩),.int .i64 d] w1 fun x w'=>∃ gk,x = .returned (.tuple #[.slice (some ⟨gk,0,none⟩) (cnOf (M j).c).nn (cnOf (M j).c).nn,.int .i64 0])∧Row w' gk (cpsL ((m j).nr d) (cnOf (M j).c).nn) 62∧Below w1.heap.size w1 w':=by
  refine hR0.mono ?_
  rintro x w' ⟨gk,A,e1,e2,e3,e4⟩
  refine ⟨gk,e1,?_,e3⟩
  rw [← cps_congr (f:=A) (fun q hq=>?_)]
  · exact e2
  ·
   rcases e4 with ⟨e5,e6⟩ | ⟨d',e5,e6,e7,e8⟩
   ·
    rw [e6]
    exact (nearR_none hpd hz hT0 hT1 hdc e5 q).symm
   · exact nearR hpd hz hT0 hT1 hdc e6 e7 e8 hq
 obtain ⟨es,hes⟩:∃ es,(List.range (cnOf (M j).c).nn).map ((m j).nr d)=es:=⟨_,rfl⟩
 have hll:es.length=(cnOf (M j).c).nn:=by rw [← hes];simp
 rw [cps_map,hes] at rT hR
 obtain ⟨yl,hyl⟩:∃ yl,(cnOf (M j).c).nn=yl:=⟨_,rfl⟩
 rw [hyl] at hF hlen hR hll
 have p0:wb.cell? ⟨w.heap.size,0,none⟩=some (.pointer (some ⟨(X j).g,0,none⟩)):=rP.cell 0
 have l0:=rP.lt
 have HWB:Hid _:=hwb
 have HH:Hid _:=h
 have HE:Hid _:=hE
 have HEZ:Hid _:=hEz
 have HP:Hid (Row wb w.heap.size [.pointer (some ⟨(X j).g,0,none⟩),.pointer (some ⟨(L j).gr,0,none⟩)] 50):=rP
 have HRT:Hid (Row w1 wb.heap.size (es.flatMap cpL) 62):=rT
 have HB0:Hid _:=hb0
 have HB1:Hid _:=b1
 have HLL:Hid _:=hll
 clear h hE hEz hb0 rP hz hT0 hT1 hpd b1 rT hw1 hwb hes hll H0 H1 hR0 hyl hdc
 go_enter Tryz.func17,Tryz.ntmps17
 go_wp2_with fail
 rw [HWB.out]
 refine hF.mono ?_;rintro x v1 ⟨rfl,rfl⟩
 have rP1:Row v1 w.heap.size [.pointer (some ⟨(X j).g,0,none⟩),.pointer (some ⟨(L j).gr,0,none⟩)] 50:=Row.below HP.out HB1.out (Row.lt HP.out)
 have p1:v1.cell? ⟨w.heap.size,1,none⟩=some (.pointer (some ⟨(L j).gr,0,none⟩)):=rP1.cell 1
 have l1:=rP1.lt
 clear p0 hF rP1
 go_wp2_with fail
 refine hR.mono ?_;rintro x w2 ⟨gk,rfl,rK,hb2⟩
 have HB2:Hid _:=hb2
 have HRK:Hid (Row w2 gk (es.flatMap cpL) 62):=rK
 clear hR hb2 rK p1
 have hnl:∀ v:World,(binOp .eql 60 (.slice (some ⟨wb.heap.size,0,none⟩) yl yl) (.slice none 0 0)).run Tryz.prog v = .ok (.bool false) v:=fun v=>eql_nil v _ _ _ _ _ Tryz.underlying60
 go_wp2_with fail
 clear hnl
 have HR2:Hid (Row w2 wb.heap.size (es.flatMap cpL) 62):=Row.below HRT.out HB2.out (Row.lt HRT.out)
 have HS0:Hid (w.heap.size<wb.heap.size):=l0
 have S1:=HB1.out.size
 have S2:=HB2.out.size
 go_loopw [11,12] (fun okv u wr=>okv = .bool true∧∃ (q:Nat),q≤yl∧u = .int .i64 q∧Below w2.heap.size w2 wr) (fun _ u _=>yl-(intOf u).toNat)
 case atStart=>exact ⟨rfl,0,by omega,rfl,Below.refl _ _⟩
 case round=>
  obtain ⟨rfl,q,hq,rfl,hbr⟩:=hrel
  have HBR:Hid _:=hbr
  have rL:Row wr wb.heap.size (es.flatMap cpL) 62:=Row.below HR2.out hbr (Row.lt HR2.out)
  by_cases hlt:q<yl
  ·
   have hql:q<es.length:=by rw [HLL.out];exact hlt
   obtain ⟨z0,z1,z2⟩:=cp_cells es hql
   have c0:=(rL.cell _).trans z0
   have c1:=(rL.cell _).trans z1
   have c2:=(rL.cell _).trans z2
   have rK:Row wr gk (es.flatMap cpL) 62:=Row.below HRK.out hbr (Row.lt HRK.out)
   have k0:=(rK.cell _).trans z0
   have k1:=(rK.cell _).trans z1
   have k2:=(rK.cell _).trans z2
   have lK:=rK.lt
   have lL:=rL.lt
   clear z0 z1 z2 rL rK hbr hql
   generalize es.getD q cpE=ev at *
   obtain ⟨e0,e1,e2⟩:=ev
   simp only at c0 c1 c2 k0 k1 k2
   go_wp2_with fail
   go_quiet (fail)
   go_wp2_with fail
   go_roundw
   case rel=>exact ⟨by simp,q+1,by omega,by go_num,HBR.out.trans ⟨rfl,rfl,rfl,Nat.le_refl _,fun _ _=>rfl⟩⟩
   case measure=>simp [intOf];omega
  ·
   have HRL:Hid (Row wr wb.heap.size (es.flatMap cpL) 62):=rL
   have HWR:Hid (Below w.heap.size w wr):=((HB0.out.trans (HB1.out.mono (by omega))).trans (HB2.out.mono (by omega))).trans (hbr.mono (by omega))
   have S3:=hbr.size
   clear rL hbr HBR
   go_wp2_with fail
   go_loopw [14] (fun u wv=>∃ (q:Nat) (A:List Cp),q≤yl∧u = .int .i64 q∧A.length=yl∧(∀ x,x<q→A.getD x cpE=mkP en)∧Row wv wb.heap.size (A.flatMap cpL) 62∧Below w.heap.size w wv∧w2.heap.size≤wv.heap.size) (fun u _=>yl-(intOf u).toNat)
   case atStart=>exact ⟨0,es,by omega,rfl,HLL.out,fun x hx=>by omega,HRL.out,HWR.out,S3⟩
   case round=>
    obtain ⟨q2,A,hq2,rfl,hA,hm,rA,hbv,sv⟩:=hrel
    have rW:Row wr W.heap.size (ownL o (.slice ma n mc) e (.slice ea en ec) b) 34:=Row.below HH.out.ws.row hbv HH.out.ws.row.lt
    have g4:wr.cell? ⟨W.heap.size,5,none⟩=some (.slice ea en ec):=rW.cell 5
    have lW:=rW.lt
    have lA:=rA.lt
    have HRA:Hid (Row wr wb.heap.size (A.flatMap cpL) 62):=rA
    have HBV:Hid _:=hbv
    have HM:Hid _:=hm
    have HA:Hid _:=hA
    by_cases hlt2:q2<yl
    ·
     obtain ⟨z0,z1,z2⟩:=cp_cells A (q:=q2) (by omega)
     have b1:Below wr.heap.size wr (wr.alloc (.cells #[.int .i64 (-1000-(en:Int)),.int .i64 (-1000-(en:Int)),.int .i64 (-1000-(en:Int))] 62)):=(Below.refl _ _).alloc (Nat.le_refl _) _
     have rB:Row (wr.alloc (.cells #[.int .i64 (-1000-(en:Int)),.int .i64 (-1000-(en:Int)),.int .i64 (-1000-(en:Int))] 62)) wb.heap.size (A.flatMap cpL) 62:=Row.below rA b1 rA.lt
     have hK:=kmarkCopy_any en (by omega) wr
     obtain ⟨wn,hwn⟩:∃ wn,wr.alloc (.cells #[.int .i64 (-1000-(en:Int)),.int .i64 (-1000-(en:Int)),.int .i64 (-1000-(en:Int))] 62)=wn:=⟨_,rfl⟩
     rw [hwn] at b1 rB hK
     have c0:=(rB.cell _).trans z0
     have c1:=(rB.cell _).trans z1
     have c2:=(rB.cell _).trans z2
     have f0:=rB.frozen (q2*3)
     have f1:=rB.frozen (q2*3+1)
     have f2:=rB.frozen (q2*3+2)
     have lB:=rB.lt
     have HRB:Hid (Row wn wb.heap.size (A.flatMap cpL) 62):=rB
     have HB1':Hid _:=b1
     clear z0 z1 z2 rA rW rB b1 hbv hm hA hwn
     go_wp2_with fail
     refine hK.mono ?_;rintro x wk ⟨rfl,rfl⟩
     clear g4
     go_wp2_with fail
     go_roundw
     case rel=>
      have sB:=HB1'.out.size
      refine ⟨q2+1,A.set q2 (mkP en),by omega,by go_num,by rw [List.length_set];exact HA.out,fun x hx=>?_,?_,?_,?_⟩
      ·
       by_cases e:x=q2
       ·
        subst e
        rw [List.getD_eq_getElem?_getD,List.getElem?_set_self (by rw [HA.out];omega)]
        rfl
       ·
        rw [List.getD_eq_getElem?_getD,List.getElem?_set_ne (fun e'=>e e'.symm),← List.getD_eq_getElem?_getD]
        exact HM.out x (by omega)
      ·
       have:=(((Row.setCell HRB.out (q2*3) (.int .i64 (-1000-(en:Int)))).setCell (q2*3+1) (.int .i64 (-1000-(en:Int)))).setCell (q2*3+2) (.int .i64 (-1000-(en:Int))))
       rw [← cp_set A q2 (mkP en) (by rw [HA.out];exact hlt2)]
       exact this
      ·
       have b2:=below_step HBV.out HB1'.out rfl
       exact (((b2.setCell (p:=⟨wb.heap.size,q2*3,none⟩) (by show w.heap.size≤wb.heap.size;omega) _).setCell (p:=⟨wb.heap.size,q2*3+1,none⟩) (by show w.heap.size≤wb.heap.size;omega) _).setCell (p:=⟨wb.heap.size,q2*3+2,none⟩) (by show w.heap.size≤wb.heap.size;omega) _)
      ·
       simp only [World.size_setCell]
       omega
     case measure=>simp [intOf];omega
    ·
     have eq2:q2=yl:=by omega
     have rM:Row wr wb.heap.size (markL (markP en) yl) 62:=by
      rw [cps_all (v:=mkP en) hA (fun x hx=>hm x (by omega)),markL_flat cpL (mkP en)] at rA
      exact rA
     have HRM:Hid (Row wr wb.heap.size (markL (markP en) yl) 62):=rM
     have HO:Hid (wr.ownsRow W.heap.size 60 1 (.slice ea en ec) en ((List.range en).map fun i=>.slice (aE i) (lE i) (lE i))):=owns_same HE.out.row (fun g hg=>hbv.block g (owns_lt HE.out.row g hg).1)
     have HRW:Hid (Row wr W.heap.size (ownL o (.slice ma n mc) e (.slice ea en ec) b) 34):=rW
     have ag:(Value.slice ea en ec).ownBlock≠some W.heap.size:=own_ne HO.out rW (by decide)
     obtain ⟨i0,hi0,hz0,hz1,hz2⟩:=info_parts Tryz.infoCps
     have HBIG:Hid _:=hbig
     have HSZ:Hid (W.heap.size≤w.heap.size):=HH.out.bel.size
     clear rA rM rW hbv hm hA hbig
     go_wp2_with (at_builtin;refine wpList_append_lies _ rfl _ _ 31 rfl W.heap.size 60 i0 _ 1 24 Tryz.underlying31 hi0 hz0 hz1 hz2 rfl (by decide) (.slice ea en ec) en ((List.range en).map fun i=>.slice (aE i) (lE i) (lE i)) rfl ?p1 ⟨wr.heap.size,0,none⟩ 1 1 [.slice (some ⟨wb.heap.size,0,none⟩) yl yl] ?p9 rfl ?p3 ?p4 (by omega) ?p5 ?p6 ?p7 _ rfl ?p8)
     case p1=>exact World.ownsRow.alloc HO.out _
     try case p3=>exact World.news_of_block (cs:=#[.slice (some ⟨wb.heap.size,0,none⟩) yl yl]) (t:=60) (fr:=(0,0)) (heap_alloc_new wr _)
     case p4=>simp [Value.oneCell']
     case p5=>have:=HBIG.out;unfold maxLen;omega
     case p6=>exact HBIG.out
     case p7=>simp;omega
     try case p9=>rfl
     case p8=>
      intro gg cap w8 hown8 hgrow hat hlt8
      have f2:w8.frozen? ⟨W.heap.size,5,none⟩=false:=(hgrow.frozen_far ⟨W.heap.size,5,none⟩ (by simp;omega) (Ne.symm ag)).trans ((Row.alloc HRW.out _).frozen 5)
      have c4:w8.cell? ⟨W.heap.size,5,none⟩=some (.slice ea en ec):=(hgrow.cell_far ⟨W.heap.size,5,none⟩ (by simp;omega) (Ne.symm ag)).trans ((Row.alloc HRW.out _).cell 5)
      have HA:Hid _:=Outs.done (f:=5) HH.out HE.out (by decide) (by decide) (by decide) HBV.out (show yl≤9223372036854775807 by omega) (fun _=>⟨wb.heap.size,rfl,by omega,HRM.out⟩) ((Below.refl _ _).alloc (Nat.le_refl _) _) hgrow hown8 (hat.imp id (fun q=>by have:=HBV.out.size;first | omega | (simp at q;omega) | (rw [q];simp;omega)))
      clear hown8 hgrow hat
      go_wp2
      go_ret
      obtain ⟨g1,g2,g3,g5⟩:=HA.out
      exact ⟨rfl,some ⟨gg,0,none⟩,cap,_,_,HH.out.out (K:=fun g=>(Value.slice ea en ec).ownBlock=some g) g1 g3 (fun g hg=>⟨(HE.out.lt (Or.inl hg)).1,HEZ.out g (Or.inl hg)⟩),g2,g3,g5⟩
set_option maxHeartbeats 6400000 in
theorem neared_bad (W w:World)(o:Own)(ea:Option Addr)(en ec:Nat)(e b:Value)(ts:List Int)(os:List (Int × Int × Int))(zone:Nat→Option Nat)(n:Nat)(X:Nat→XLoc)(m:Nat→Mh)(L:Nat→RLoc)(M:Nat→RDat)(ma:Option Addr)(mc:Nat)(h:MI W w o e (.slice ea en ec) b ts os zone n X m L M ma mc)
  (aE:Nat→Option Addr) (lE:Nat→Nat) (hE:Outs w W.heap.size 60 62 markP (.slice ea en ec) en aE lE) (hEz:∀ g,OB (.slice ea en ec) en aE lE g→¬MZ W.heap.size o zone (.slice ma n mc) g) (j:Nat) (hj:j<n) (d:Int) (hd:d<0∨(M j).c.cores≤d) (hbig:(en+1)*24≤140737488355328) :
  Calls Tryz.prog 17 #[.pointer (some ⟨W.heap.size,0,none⟩),.agg (prA (X j).g (L j).gr),.int .i64 d] w fun x w'=>x = .returned (.bool true)∧∃ ea' ec' aE' lE',MI W w' o e (.slice ea' (en+1) ec') b ts os zone n X m L M ma mc∧Outs w' W.heap.size 60 62 markP (.slice ea' (en+1) ec') (en+1) aE' lE'∧
   Touch (fun g=>g=W.heap.size∨(Value.slice ea en ec).ownBlock=some g) w w'∧∀ g,g<w.heap.size→OB (.slice ea' (en+1) ec') (en+1) aE' lE' g→OB (.slice ea en ec) en aE lE g:=by
 have hb0:Below w.heap.size w (w.alloc (.cells (prA (X j).g (L j).gr) 50)):=(Below.refl _ _).alloc (Nat.le_refl _) _
 have rP:Row (w.alloc (.cells (prA (X j).g (L j).gr) 50)) w.heap.size [.pointer (some ⟨(X j).g,0,none⟩),.pointer (some ⟨(L j).gr,0,none⟩)] 50:=heap_alloc_new w _
 obtain ⟨wb,hwb⟩:∃ wb,w.alloc (.cells (prA (X j).g (L j).gr) 50)=wb:=⟨_,rfl⟩
 rw [hwb] at hb0 rP
 have H0:=h.below hb0
 have hF:=wNear_bad (cnOf (M j).c) (X j) (m j) d wb (H0.ms.mach j hj) hd
 have hR:=rNear_bad (L j) (M j) d wb (H0.ms.ref j hj) hd
 have p0:wb.cell? ⟨w.heap.size,0,none⟩=some (.pointer (some ⟨(X j).g,0,none⟩)):=rP.cell 0
 have p1:wb.cell? ⟨w.heap.size,1,none⟩=some (.pointer (some ⟨(L j).gr,0,none⟩)):=rP.cell 1
 have l0:=rP.lt
 have rW:Row wb W.heap.size (ownL o (.slice ma n mc) e (.slice ea en ec) b) 34:=H0.ws.row
 have g4:wb.cell? ⟨W.heap.size,5,none⟩=some (.slice ea en ec):=rW.cell 5
 have lW:=rW.lt
 have hnl:∀ v:World,(binOp .eql 60 (.slice none 0 0) (.slice none 0 0)).run Tryz.prog v = .ok (.bool true) v:=fun v=>eql_nil v _ _ _ _ _ Tryz.underlying60
 have HO:Hid (wb.ownsRow W.heap.size 60 1 (.slice ea en ec) en ((List.range en).map fun i=>.slice (aE i) (lE i) (lE i))):=owns_same hE.row (fun g hg=>hb0.block g (owns_lt hE.row g hg).1)
 have HRW:Hid (Row wb W.heap.size (ownL o (.slice ma n mc) e (.slice ea en ec) b) 34):=rW
 have ag:(Value.slice ea en ec).ownBlock≠some W.heap.size:=own_ne HO.out rW (by decide)
 obtain ⟨i0,hi0,hz0,hz1,hz2⟩:=info_parts Tryz.infoCps
 have HBIG:Hid _:=hbig
 have HSZ:Hid (W.heap.size≤w.heap.size):=h.bel.size
 have HWB:Hid _:=hwb
 have HH:Hid _:=h
 have HE:Hid _:=hE
 have HEZ:Hid _:=hEz
 have HBV:Hid _:=hb0
 clear h hE hEz hb0 rP rW hwb H0 hbig hd
 go_enter Tryz.func17,Tryz.ntmps17
 go_wp2_with fail
 rw [HWB.out]
 refine hF.mono ?_;rintro x v1 ⟨rfl,rfl⟩
 go_wp2_with fail
 refine hR.mono ?_;rintro x v2 ⟨rfl,rfl⟩
 go_wp2_with fail
 refine wp_loop_rounds 1 ?_
 rw [rounds_succ]
 go_wp2_with fail
 refine wp_loop_rounds 1 ?_
 rw [rounds_succ]
 clear p0 p1 hnl
 go_wp2_with (at_builtin;refine wpList_append_lies _ rfl _ _ 31 rfl W.heap.size 60 i0 _ 1 24 Tryz.underlying31 hi0 hz0 hz1 hz2 rfl (by decide) (.slice ea en ec) en ((List.range en).map fun i=>.slice (aE i) (lE i) (lE i)) rfl ?p1 ⟨v2.heap.size,0,none⟩ 1 1 [.slice none 0 0] ?p9 rfl ?p3 ?p4 (by omega) ?p5 ?p6 ?p7 _ rfl ?p8)
 case p1=>exact World.ownsRow.alloc HO.out _
 try case p3=>exact World.news_of_block (cs:=#[.slice none 0 0]) (t:=60) (fr:=(0,0)) (heap_alloc_new v2 _)
 case p4=>simp [Value.oneCell']
 case p5=>have:=HBIG.out;unfold maxLen;omega
 case p6=>exact HBIG.out
 case p7=>have:=HBV.out.size;have:=HSZ.out;simp;omega
 try case p9=>rfl
 case p8=>
  intro gg cap w8 hown8 hgrow hat hlt8
  have f2:w8.frozen? ⟨W.heap.size,5,none⟩=false:=(hgrow.frozen_far ⟨W.heap.size,5,none⟩ (by simp;omega) (Ne.symm ag)).trans ((Row.alloc HRW.out _).frozen 5)
  have c4:w8.cell? ⟨W.heap.size,5,none⟩=some (.slice ea en ec):=(hgrow.cell_far ⟨W.heap.size,5,none⟩ (by simp;omega) (Ne.symm ag)).trans ((Row.alloc HRW.out _).cell 5)
  have HA:Hid _:=Outs.done (f:=5) (a':=none) (l':=0) HH.out HE.out (by decide) (by decide) (by decide) HBV.out (show 0≤9223372036854775807 by omega) (fun q=>absurd rfl q) ((Below.refl _ _).alloc (Nat.le_refl _) _) hgrow hown8 (hat.imp id (fun q=>by have:=HBV.out.size;first | omega | (simp at q;omega) | (rw [q];simp;omega)))
  clear hown8 hgrow hat
  go_wp2
  go_ret
  obtain ⟨g1,g2,g3,g5⟩:=HA.out
  exact ⟨rfl,some ⟨gg,0,none⟩,cap,_,_,HH.out.out (K:=fun g=>(Value.slice ea en ec).ownBlock=some g) g1 g3 (fun g hg=>⟨(HE.out.lt (Or.inl hg)).1,HEZ.out g (Or.inl hg)⟩),g2,g3,g5⟩
theorem IY.near {W:World}{ca:Option Addr}{cl cc:Nat}{Z:Nat→Prop}{k:Nat}{wr:World}(h:IY W ca cl cc Z k wr)(st:St)(hr:StR st)(hk:st.k=18)(hz:k*40≤140737488351232) :
  Calls Tryz.prog 9 #[.pointer (some ⟨W.heap.size,0,none⟩),opV st] wr fun x w'=>x = .returned (.bool true)∧StepY W ca cl cc Z k wr w':=by
 have hI:=h
 obtain ⟨o,ts,os,zone,n,X,m,L,M,ma,mc,D,h1,h4,hO,hb,hD,rfl⟩:=h
 by_cases hp:n=0
 ·
  subst hp
  refine (step_noms W.heap.size W.heap.size o mc ma _ _ _ ts os st wr h4.ws (by omega) (by omega)).mono ?_
  rintro x w' ⟨rfl,b⟩
  exact ⟨rfl,hI.same b⟩
 ·
  obtain ⟨g,e1,e2,e3,e4,_⟩:=h4.pair (j:=0) (by omega)
  subst e1
  refine step_neared W.heap.size W.heap.size o n mc g _ _ _ ts os st wr h4.ws hr hk (by omega) e2 e3 e4 (fun j=>(X j).g) (fun j=>(L j).gr) (fun j hj=>?_) (fun w'=>StepY W ca cl cc _ k wr w') (fun j w2 hj hbw=>?_)
  ·
   obtain ⟨g',q1,_,_,_,q5,q6⟩:=h4.pair hj
   simp only [Option.some.injEq,Addr.mk.injEq,and_true] at q1
   subst q1
   exact ⟨q5,q6⟩
  ·
   have I2:=h4.below hbw
   have O2:=hO.below hbw
   have up:∀ w',(∃ pa' pc' aP' lP',MI W w' o D.e (.slice pa' (D.pn+1) pc') D.b ts os zone n X m L M (some ⟨g,0,none⟩) mc∧Outs w' W.heap.size 60 62 markP (.slice pa' (D.pn+1) pc') (D.pn+1) aP' lP'∧Touch (fun g=>g=W.heap.size∨D.p.ownBlock=some g) w2 w'∧∀ g,g<w2.heap.size→OB (.slice pa' (D.pn+1) pc') (D.pn+1) aP' lP' g→OB D.p D.pn D.aP D.lP g)→StepY W ca cl cc (fun g'=>MZ W.heap.size o zone (.slice (some ⟨g,0,none⟩) n mc) g'∨D.OA g') k wr w':=fun w' hA=>by
    obtain ⟨pa',pc',aP',lP',g1,g2,g3,g5⟩:=hA
    obtain ⟨b1,b2,b3⟩:=hD
    have kp:∀ {rt et:TypeId} {mark:Nat→List Value} {v:Value} {c:Nat} {a:Nat→Option Addr} {l:Nat→Nat},Outs w2 W.heap.size rt et mark v c a l→34≠rt→34≠et→60≠rt→60≠et→Outs w' W.heap.size rt et mark v c a l:=fun ho n1 n2 n3 n4=>ho.same (fun g' hg'=>g3.block g' (ho.lt hg').2 (fun q=>by
     rcases q with q|q
     · subst q;exact ho.not I2.ws.row n1 n2 hg'
     ·
      obtain ⟨A,hA⟩:=owns_row O2.op.row q
      exact ho.not hA n3 n4 hg'))
    exact StepY.low (IY.gives (D':={ D with pa:=pa',pn:=D.pn+1,pc:=pc',aP:=aP',lP:=lP' }) D.p h1 I2 O2 hb ⟨by show D.en≤k+1;omega,by show D.pn+1≤k+1;omega,by show D.bn≤k+1;omega⟩ g1 g3 (fun g' q=>Or.inr (Or.inl (Or.inl q))) (kp O2.oe (by decide) (by decide) (by decide) (by decide)) g2 (kp O2.ob (by decide) (by decide) (by decide) (by decide)) (fun g' hg' q=>q.imp id (fun q=>q.imp (g5 g' hg') id))) hbw
   have hEz:∀ g',OB D.p D.pn D.aP D.lP g'→¬MZ W.heap.size o zone (.slice (some ⟨g,0,none⟩) n mc) g':=fun g' q=>O2.apart g' (Or.inr (Or.inl q))
   by_cases hd:st.b<0∨(M j).c.cores≤st.b
   ·
    refine (neared_bad W w2 o D.pa D.pn D.pc D.e D.b ts os zone n X m L M _ mc I2 D.aP D.lP O2.op hEz j hj st.b hd (by have:=hD.2.1;omega)).mono ?_
    rintro x w' ⟨rfl,hA⟩
    exact ⟨rfl,up w' hA⟩
   ·
    obtain ⟨d,hdd⟩:=Int.eq_ofNat_of_zero_le (show 0≤st.b by omega)
    rw [hdd]
    refine (neared_good W w2 o D.pa D.pn D.pc D.e D.b ts os zone n X m L M _ mc I2 D.aP D.lP O2.op hEz j hj d (by omega) (by have:=hD.2.1;omega)).mono ?_
    rintro x w' ⟨rfl,hA⟩
    exact ⟨rfl,up w' hA⟩
end Go.Proofs.YtehheaedbnfidaaGreat
