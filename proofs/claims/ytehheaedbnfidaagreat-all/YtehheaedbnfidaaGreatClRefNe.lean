import Derived.Test.YtehheaedbnfidaaGreatClRefMy
import Derived.Test.YtehheaedbnfidaaGreatClWCohere
set_option maxRecDepth 100000
namespace Go.Proofs.YtehheaedbnfidaaGreat
open Go.RowKit
theorem SoloM.beside {w:World}{base g:Nat}{X:SLoc}{S:So}{B:List Value}(h:SoloM w base X S)(hB:Row w g B 62)(i:Nat)(v:Value):SoloM (w.setCell ⟨g,i,none⟩ v) base X S:=by
 have n1:∀ {k A t},Row w k A t→t≠62→Row (w.setCell ⟨g,i,none⟩ v) k A t:=fun hr ht=>hr.setCellOther i v (fun e=>ht (by subst e;exact row_type hr hB))
 have n2:∀ {size n:Nat} {xs:List Value} {sv:Value} {t:TypeId},w.ownsRow base t size sv n xs→t≠62→(w.setCell ⟨g,i,none⟩ v).ownsRow base t size sv n xs:=fun ho ht=>owns_same ho (fun k hk=>Below.heap_setCell _ _ _ _ (fun q=>by
  have q':k=g:=q
  subst q'
  exact own_ne ho hB (Ne.symm ht) hk))
 exact ⟨n1 h.row (by decide),h.bs,n2 h.log (by decide),h.ll,n2 h.evs (by decide),h.el,n1 h.nx (by decide),h.nl,h.nb,n1 h.fx (by decide),h.fl,h.fb,n1 h.bx (by decide),h.bl,h.bb,n1 h.hx (by decide),h.hl,h.hb,h.dis,h.q.same (fun k A hr=>n1 hr (by decide))⟩
theorem cps_set (A:Nat→Cp){n p:Nat}(hp:p<n)(c:Cp):(((cpsL A n).set (p*3) (.int .i64 c.dom)).set (p*3+1) (.int .i64 c.line)).set (p*3+2) (.int .i64 c.st)=cpsL (up1 A p c) n:=by
 apply List.ext_getElem?
 intro i
 by_cases hi:i<n*3
 ·
  have e:i=i / 3*3+i%3:=by omega
  have hm:i%3<3:=by omega
  by_cases q:i / 3=p
  ·
   have:i=p*3∨i=p*3+1∨i=p*3+2:=by omega
   have hr:(cpsL (up1 A p c) n)[i]? = (cpL c)[i%3]? := by
    conv=>lhs;rw [e]
    rw [cps_at _ (by omega) hm,q,up1_same]
   rw [hr]
   have l1:=cps_len A n
   rcases this with r|r|r <;> subst r
   · rw [List.getElem?_set_ne (by omega),List.getElem?_set_ne (by omega),List.getElem?_set_self (by omega),show p*3%3=0 by omega];rfl
   · rw [List.getElem?_set_ne (by omega),List.getElem?_set_self (by rw [List.length_set];omega),show (p*3+1)%3=1 by omega];rfl
   · rw [List.getElem?_set_self (by rw [List.length_set,List.length_set];omega),show (p*3+2)%3=2 by omega];rfl
  ·
   rw [List.getElem?_set_ne (by omega),List.getElem?_set_ne (by omega),List.getElem?_set_ne (by omega)]
   rw [e,cps_at _ (by omega) hm,cps_at _ (by omega) hm,up1_other _ _ q]
 · rw [List.getElem?_eq_none (by simp only [List.length_set,cps_len];omega),List.getElem?_eq_none (by rw [cps_len];omega)]
theorem cps_none (A:Nat→Cp){n:Nat}(h:∀ x,x<n→A x=cpE):cpsL A n=cpsL (fun _=>cpE) n:=by
 apply List.ext_getElem?
 intro i
 by_cases hi:i<n*3
 ·
  have e:i=i / 3*3+i%3:=by omega
  have hm:i%3<3:=by omega
  rw [e,cps_at _ (by omega) hm,cps_at _ (by omega) hm,h _ (by omega)]
 · rw [List.getElem?_eq_none (by rw [cps_len];omega),List.getElem?_eq_none (by rw [cps_len];omega)]
theorem cps_zero (n:Nat):cpsL (fun _=>⟨0,0,0⟩) n=List.replicate (n*3) (Value.int .i64 0):=by
 apply List.ext_getElem?
 intro i
 by_cases hi:i<n*3
 ·
  have e:i=i / 3*3+i%3:=by omega
  have hm:i%3=0∨i%3=1∨i%3=2:=by omega
  rw [List.getElem?_replicate,if_pos hi,e,cps_at _ (by omega) (by omega)]
  rcases hm with q|q|q <;> rw [q] <;> rfl
 · rw [List.getElem?_eq_none (by rw [cps_len];omega),List.getElem?_eq_none (by simp;omega)]
set_option maxHeartbeats 1600000 in
theorem rlines_any (L:RLoc)(M:RDat)(w:World)(h:RefM w L M) :
  Calls Tryz.prog 86 #[.pointer (some ⟨L.gr,0,none⟩)] w fun e w'=>e = .returned (.int .i64 ((M.c.priv+M.c.shared) / M.c.line))∧Below w.heap.size w w':=by
 have m2:w.cell? ⟨L.gr,2,none⟩=some (.int .i64 M.c.line):=by rw [h.row.cell];rfl
 have m3:w.cell? ⟨L.gr,3,none⟩=some (.int .i64 M.c.priv):=by rw [h.row.cell];rfl
 have m4:w.cell? ⟨L.gr,4,none⟩=some (.int .i64 M.c.shared):=by rw [h.row.cell];rfl
 obtain ⟨_,_,_,_,_,_,hln,p1,p2,sh0,sh1⟩:=shape_bounds (chk_zero h.right).1
 have y1:0<M.c.line:=by omega
 have y0:¬M.c.line=0:=by omega
 have y5:0≤M.c.priv+M.c.shared:=by omega
 have y2:0≤(M.c.priv+M.c.shared) / M.c.line:=Int.ediv_nonneg y5 (by omega)
 have y3:(M.c.priv+M.c.shared) / M.c.line≤M.c.priv+M.c.shared:=Int.ediv_le_self _ y5
 have y4:IntKind.i64.wrap ((M.c.priv+M.c.shared) / M.c.line)=(M.c.priv+M.c.shared) / M.c.line:=by rw [IntKind.wrap_i64];omega
 have y6:IntKind.i64.wrap (M.c.priv+M.c.shared)=M.c.priv+M.c.shared:=by rw [IntKind.wrap_i64];omega
 clear h hln
 go_enter Tryz.func86,Tryz.ntmps86
 go_wp2_with fail
 try (go_quiet (fail);go_wp2)
 go_ret
 first | exact ⟨rfl,Go.below_drewN (Below.refl _ _) _⟩ | exact ⟨rfl,Below.refl _ _⟩
set_option maxHeartbeats 6400000 in
theorem rNear_good (L:RLoc)(M:RDat)(k:Nat)(w:World)(h:RefM w L M)(hc:CfgAt w M.c M.s)(hk:k<M.c.cores.toNat) :
  Calls Tryz.prog 46 #[.pointer (some ⟨L.gr,0,none⟩),.int .i64 k] w fun e w'=>∃ g A,e = .returned (.tuple #[.slice (some ⟨g,0,none⟩) (cnOf M.c).nn (cnOf M.c).nn,.int .i64 0])∧Row w' g (cpsL A (cnOf M.c).nn) 62∧Below w.heap.size w w'∧(((M.T=0∨turnZ M.c k (M.T-1)<0)∧A=fun _=>cpE)∨∃ d:Nat,0<M.T∧turnZ M.c k (M.T-1)=d∧(d:Int)<M.c.domains∧NearF M.c k (M.T-1) d (So.upto M.toM d M.T.toNat).log ((M.c.priv+M.c.shared) / M.c.line).toNat A):=by
 obtain ⟨i0,hi0,hz0,hz1,hz2⟩:=info_parts Tryz.infoCopy
 have hN:=nm_of h.right
 obtain ⟨nn,hnn⟩:∃ nn,(cnOf M.c).nn=nn:=⟨_,rfl⟩
 have hnr:M.c.near=(nn:Int):=by have:=hN.nn;omega
 have hnt:M.c.near.toNat=nn:=hnn
 rw [hnn]
 have m0:w.cell? ⟨L.gr,0,none⟩=some (.int .i64 M.c.cores):=by rw [h.row.cell];rfl
 have m5:w.cell? ⟨L.gr,5,none⟩=some (.int .i64 nn):=by rw [h.row.cell,← hnr];rfl
 have R:=right_of h.right
 obtain ⟨_,_,_,_,hnear,_,hln,p1,p2,sh0,sh1⟩:=shape_bounds (chk_zero h.right).1
 have n4:nn≤4:=by omega
 have ps0:0≤M.c.priv+M.c.shared:=by omega
 have PS0:Hid (0≤M.c.priv+M.c.shared∧M.c.priv+M.c.shared≤96):=⟨ps0,by omega⟩
 have n1:0<nn:=by omega
 have k0:(0:Int)≤(k:Int):=by omega
 have kc:(k:Int)<M.c.cores:=by omega
 have T0:=h.T0
 have T1:=h.T1
 have lg:=h.row.lt
 have HRF:Hid _:=h
 have HCF:Hid _:=hc
 have HR:Hid _:=R
 have HNT:Hid _:=hnt
 have HNR:Hid _:=hnr
 have HR0:Hid (Row (w.alloc (.cells (madeCells #[.int .i64 0,.int .i64 0,.int .i64 0] (nn*3)) 62)) w.heap.size (cpsL (fun _=>⟨0,0,0⟩) nn) 62):=by
  unfold Hid
  rw [cps_zero,made_three]
  exact heap_alloc_new w _
 have HB0:Hid (Below w.heap.size w (w.alloc (.cells (madeCells #[.int .i64 0,.int .i64 0,.int .i64 0] (nn*3)) 62))):=(Below.refl _ _).alloc (Nat.le_refl _) _
 clear h hc R hN hnear hln hnn hnt hnr ps0
 go_enter Tryz.func46,Tryz.ntmps46
 go_wp2_with (at_make;refine wpList_make_exact _ rfl _ _ 60 rfl 62 i0 _ Tryz.underlying60 hi0 hz0 .i64 .i64 _ _ nn rfl rfl (by simp) (by simp) (by rw [hz2];omega) (by unfold maxLen;omega) ?_;rw [hz1])
 clear m0 m5
 go_loopw [7] (fun u wr=>∃ (p:Nat) (A:Nat→Cp),p≤nn∧u = .int .i64 p∧(∀ x,x<p→A x=cpE)∧Row wr w.heap.size (cpsL A nn) 62∧Below w.heap.size w wr) (fun u _=>nn-(intOf u).toNat)
 case atStart=>exact ⟨0,fun _=>⟨0,0,0⟩,by omega,rfl,fun x hx=>by omega,HR0.out,HB0.out⟩
 case round=>
  obtain ⟨p,A,hp,rfl,hA,rA,hb⟩:=hrel
  have HA:Hid _:=hA
  have HRA:Hid (Row wr w.heap.size (cpsL A nn) 62):=rA
  have HB:Hid _:=hb
  by_cases hlt:p<nn
  ·
   have c0:=(rA.cell _).trans (cps_at A hlt (show 0<3 by omega))
   have c1:=(rA.cell _).trans (cps_at A hlt (show 1<3 by omega))
   have c2:=(rA.cell _).trans (cps_at A hlt (show 2<3 by omega))
   simp only [cpL,List.getElem?_cons_zero,List.getElem?_cons_succ,Nat.add_zero] at c0 c1 c2
   have f0:=rA.frozen (p*3)
   have f1:=rA.frozen (p*3+1)
   have f2:=rA.frozen (p*3+2)
   have lA:=rA.lt
   clear hA rA hb
   go_wp2_with fail
   go_roundw
   case rel=>
    refine ⟨p+1,up1 A p cpE,by omega,by go_num,fun x hx=>?_,?_,?_⟩
    ·
     by_cases e:x=p
     · subst e;exact up1_same ..
     · rw [up1_other _ _ e];exact HA.out x (by omega)
    ·
     rw [← cps_set A hlt cpE]
     exact ((Row.setCell HRA.out (p*3) (.int .i64 (-1))).setCell (p*3+1) (.int .i64 (-1))).setCell (p*3+2) (.int .i64 0)
    · exact ((HB.out.setCell (p:=⟨w.heap.size,p*3,none⟩) (Nat.le_refl _) _).setCell (p:=⟨w.heap.size,p*3+1,none⟩) (Nat.le_refl _) _).setCell (p:=⟨w.heap.size,p*3+2,none⟩) (Nat.le_refl _) _
   case measure=>simp [intOf];omega
  ·
   have HRE:Hid (Row wr w.heap.size (cpsL (fun _=>cpE) nn) 62):=by
    unfold Hid
    rw [← cps_none A (fun x hx=>hA x (by omega))]
    exact rA
   have hM:=HRF.out.below hb (Nat.le_refl _)
   have hC:=HCF.out.below hb (Nat.le_refl _)
   have m16:wr.cell? ⟨L.gr,16,none⟩=some (.int .i64 M.T):=by rw [hM.row.cell];rfl
   clear hA rA HA HRA
   by_cases hT:M.T=0
   ·
    have HT:Hid _:=hT
    rw [hT] at m16
    clear hM hC hb hT
    go_wp2
    go_ret2
    exact ⟨_,_,rfl,HRE.out,HB.out,Or.inl ⟨Or.inl HT.out,rfl⟩⟩
   ·
    have hT2:(M.T==0)=false:=by simpa using hT
    have HTR:=rturn_any M.c M.s k (M.T-1) wr hC HR.out kc (by omega) (by omega)
    have mr:=row_q hM.row
    have HM:Hid _:=hM
    have HC:Hid _:=hC
    obtain ⟨td1,td2⟩:=turn_bd HM.out.right (k:=k) (t:=M.T-1) kc
    clear hM hC hb
    go_wp2_with fail
    refine HTR.mono ?_
    rintro e w2 ⟨rfl,hb2⟩
    have HB2:Hid (Below w.heap.size w w2):=below_step HB.out hb2 rfl
    have HR2:Hid (Row w2 w.heap.size (cpsL (fun _=>cpE) nn) 62):=Row.below HRE.out hb2 (Row.lt HRE.out)
    have lR2:w.heap.size<w2.heap.size:=Row.lt HR2.out
    clear HTR mr m16
    by_cases hneg:turnZ M.c k (M.T-1)<0
    ·
     have HNG:Hid _:=hneg
     generalize turnZ M.c k (M.T-1)=tz at hneg ⊢
     clear hb2
     go_wp2
     go_ret2
     exact ⟨_,_,rfl,HR2.out,HB2.out,Or.inl ⟨Or.inr HNG.out,rfl⟩⟩
    ·
     obtain ⟨d,hd⟩:=Int.eq_ofNat_of_zero_le (show 0≤turnZ M.c k (M.T-1) by omega)
     have HD:Hid _:=hd
     have hdd:(d:Int)<M.c.domains:=by omega
     have hP:=rplayed_any L M d w2 (HM.out.below hb2 (Nat.le_refl _)) (HC.out.below hb2 (Nat.le_refl _)) (by have:=HM.out.nd;omega)
     have HSO:Hid _:=SoOk.upto (M:=M.toM) (d:=d) HM.out.right M.T.toNat (by omega)
     have hll:=(upto_len (M:=M.toM) (d:=d) HM.out.right M.T.toNat).1
     rw [hd]
     have d0:¬(d:Int)<0:=by omega
     clear hb2 hd hneg td1 td2
     go_wp2_with fail
     refine hP.mono ?_
     rintro e w3 ⟨X,rfl,hX,hX3⟩
     obtain ⟨S,hS⟩:∃ S,So.upto M.toM d M.T.toNat=S:=⟨_,rfl⟩
     rw [hS] at hX3 HSO hll
     have HX3:Hid _:=hX3
     have HB3:Hid (Below w.heap.size w w3):=HB2.out.trans (hX3.below.mono (by omega))
     have HR3:Hid (Row w3 w.heap.size (cpsL (fun _=>cpE) nn) 62):=Row.below HR2.out hX3.below lR2
     have HS3:Hid _:=hX3.solo
     have HGR:Hid _:=hX3.gr
     have HSE:Hid _:=hS
     obtain ⟨ln,hln⟩:∃ ln:Nat,(M.c.priv+M.c.shared) / M.c.line=(ln:Int):=Int.eq_ofNat_of_zero_le (Int.ediv_nonneg PS0.out.1 (by have:=(nm_of HM.out.right).ln;omega))
     have ln96:ln≤96:=by
      have:=Int.ediv_le_self M.c.line PS0.out.1
      have:=PS0.out.2
      omega
     have HLN:Hid _:=hln
     clear hP hX hX3 hS hln
     go_wp2_with fail
     go_loopw [11] (fun u wr=>∃ (x:Nat) (A:Nat→Cp),x≤ln∧u = .int .i64 x∧NearF M.c k (M.T-1) d S.log x A∧Row wr w.heap.size (cpsL A nn) 62∧SoloM wr w2.heap.size X S∧Below w.heap.size w wr) (fun u _=>ln-(intOf u).toNat)
     case atStart=>exact ⟨0,fun _=>cpE,by omega,rfl,NearF.start M.c k (M.T-1) d S.log,HR3.out,HS3.out,HB3.out⟩
     case round=>
      obtain ⟨x,A,hx,rfl,hA,rA,hS,hb⟩:=hrel
      have hM:=HRF.out.below hb (Nat.le_refl _)
      have hlns:=rlines_any L M wr hM
      rw [HLN.out] at hlns
      have HA:Hid _:=hA
      have HRA:Hid (Row wr w.heap.size (cpsL A nn) 62):=rA
      have HB:Hid _:=hb
      have HS:Hid _:=hS
      clear hA rA hS hM hb
      by_cases hlt:x<ln
      ·
       go_wp2_with fail
       refine hlns.mono ?_
       rintro e w4 ⟨rfl,hb4⟩
       have s4:=HS.out.below hb4 (Nat.le_refl _)
       have HB4:Hid (Below w.heap.size w w4):=below_step HB.out hb4 rfl
       have hM4:=HRF.out.below HB4.out (Nat.le_refl _)
       have hst:=rstate_any X M.c M.s L M.T k x (M.T-1) S.log w4 ⟨s4.row,by rw [HGR.out];exact hM4.row,hM4.right⟩ (s4.logAt (by have:=s4.ll;omega)) HSO.out.log (by omega)
       have HS4:Hid _:=s4
       have HR4:Hid (Row w4 w.heap.size (cpsL A nn) 62):=Row.below HRA.out hb4 (Row.lt HRA.out)
       clear hlns hb4 s4 hM4 HS HB HRA
       go_wp2_with fail
       refine hst.mono ?_
       rintro e w5 ⟨rfl,hb5⟩
       have HB5:Hid (Below w.heap.size w w5):=below_step HB4.out hb5 rfl
       have HS5:Hid _:=HS4.out.below hb5 (Nat.le_refl _)
       have HR5:Hid (Row w5 w.heap.size (cpsL A nn) 62):=Row.below HR4.out hb5 (Row.lt HR4.out)
       clear hst hb5 HS4 HB4 HR4
       by_cases hs0:stateF M.c k x (M.T-1) false S.log=0
       ·
        have HZ:Hid _:=NearF.none HA.out hs0
        rw [hs0]
        clear hs0
        go_wp2_with fail
        go_roundw
        case rel=>exact ⟨x+1,A,by omega,by go_num,HZ.out,HR5.out,HS5.out,HB5.out⟩
        case measure=>simp [intOf];omega
       ·
        obtain ⟨q,hq⟩:∃ q,x%nn=q:=⟨_,rfl⟩
        have hz:=NearF.one HA.out hs0
        rw [show x%M.c.near.toNat=q by rw [HNT.out];exact hq] at hz
        have HZ:Hid (NearF M.c k (M.T-1) d S.log (x+1) (up1 A q ⟨d,x,stateF M.c k x (M.T-1) false S.log⟩)):=hz
        clear hz
        have hs1:(stateF M.c k x (M.T-1) false S.log==0)=false:=by simpa using hs0
        have hM5:=HRF.out.below HB5.out (Nat.le_refl _)
        have m5:w5.cell? ⟨L.gr,5,none⟩=some (.int .i64 nn):=by rw [hM5.row.cell,← HNR.out];rfl
        have hql:q<nn:=by rw [← hq];exact Nat.mod_lt _ n1
        have hqi:(x:Int)%(nn:Int)=(q:Int):=by rw [← hq,Int.natCast_emod]
        have c0:=(Row.cell HR5.out _).trans (cps_at A hql (show 0<3 by omega))
        have c1:=(Row.cell HR5.out _).trans (cps_at A hql (show 1<3 by omega))
        have c2:=(Row.cell HR5.out _).trans (cps_at A hql (show 2<3 by omega))
        simp only [cpL,List.getElem?_cons_zero,List.getElem?_cons_succ,Nat.add_zero] at c0 c1 c2
        have f0:=Row.frozen HR5.out (q*3)
        have f1:=Row.frozen HR5.out (q*3+1)
        have f2:=Row.frozen HR5.out (q*3+2)
        have lA:=Row.lt HR5.out
        have y1:(0:Int)<(nn:Int):=by omega
        have y0:¬(nn:Int)=0:=by omega
        have x0:(0:Int)≤(x:Int):=by omega
        generalize stateF M.c k x (M.T-1) false S.log=sv at *
        clear hM5 hs0
        go_wp2_with fail
        try (go_quiet (fail);go_wp2_with fail)
        go_roundw
        case rel=>
         refine ⟨x+1,_,by omega,by go_num,HZ.out,?_,?_,?_⟩
         ·
          rw [← cps_set A hql]
          exact ((Row.setCell HR5.out (q*3) (.int .i64 d)).setCell (q*3+1) (.int .i64 x)).setCell (q*3+2) (.int .i64 sv)
         · exact ((HS5.out.beside HR5.out _ _).beside (Row.setCell HR5.out (q*3) (.int .i64 d)) _ _).beside ((Row.setCell HR5.out (q*3) (.int .i64 d)).setCell (q*3+1) (.int .i64 x)) _ _
         · exact ((HB5.out.setCell (p:=⟨w.heap.size,q*3,none⟩) (Nat.le_refl _) _).setCell (p:=⟨w.heap.size,q*3+1,none⟩) (Nat.le_refl _) _).setCell (p:=⟨w.heap.size,q*3+2,none⟩) (Nat.le_refl _) _
        case measure=>simp [intOf];omega
      ·
       have ex:x=ln:=by omega
       go_wp2_with fail
       refine hlns.mono ?_
       rintro e w4 ⟨rfl,hb4⟩
       have HB4:Hid (Below w.heap.size w w4):=below_step HB.out hb4 rfl
       have HR4:Hid (Row w4 w.heap.size (cpsL A nn) 62):=Row.below HRA.out hb4 (Row.lt HRA.out)
       have hdd':(d:Int)<M.c.domains:=hdd
       have hT3:0<M.T:=by omega
       clear hlns hb4 HS HB HRA
       go_wp2
       go_ret2
       refine ⟨_,A,rfl,HR4.out,HB4.out,Or.inr ⟨d,hT3,HD.out,hdd',?_⟩⟩
       rw [HSE.out,HLN.out,Int.toNat_natCast,← ex]
       exact HA.out
set_option maxHeartbeats 1600000 in
theorem rNear_bad (L:RLoc)(M:RDat)(k:Int)(w:World)(h:RefM w L M)(hk:k<0∨M.c.cores≤k) :
  Calls Tryz.prog 46 #[.pointer (some ⟨L.gr,0,none⟩),.int .i64 k] w fun e w'=>e = .returned (.tuple #[.slice none 0 0,.int .i64 6])∧w'=w:=by
 have m0:w.cell? ⟨L.gr,0,none⟩=some (.int .i64 M.c.cores):=by rw [h.row.cell];rfl
 have cases:k<0∨(0≤k∧M.c.cores≤k):=by omega
 clear h hk
 rcases cases with b1|⟨b1,b2⟩
 all_goals
  go_enter Tryz.func46,Tryz.ntmps46
  go_wp2
  go_ret2
  exact ⟨rfl,rfl⟩
end Go.Proofs.YtehheaedbnfidaaGreat
