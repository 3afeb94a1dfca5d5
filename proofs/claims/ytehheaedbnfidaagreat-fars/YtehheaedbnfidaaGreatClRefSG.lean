import Derived.Test.YtehheaedbnfidaaGreatClWOpen
import Derived.Test.YtehheaedbnfidaaGreatClRefSC
set_option maxRecDepth 100000
namespace Go.Proofs.YtehheaedbnfidaaGreat
open Go.RowKit
theorem takeAt {P:Program}{md:Region.Mode}{ops:Array Oper}{Q:Exit→Act→World→Prop}{S:World→Prop}{i:Nat}{oi:Oper}{v:Value}{fuel:Nat}{listed:Array Bool}{a:Act}{w:World}{dst:Option Tmp}(hi:ops[i]? = some oi)(hd:oi.dst=dst)
  (hs:Region.noSelect ops=true) (hf:Region.free md ops listed i=true) (hr:(Region.ready md ops listed).contains i=true)
  (hQ:∀ c a w,Q (.panic c) (a.put dst v) w→Q (.panic c) a w) (hy:YieldsIf P ops S oi v a) (hS:S w)
  (h:wpAnyH P md ops Q S fuel (listed.setIfInBounds i true) (a.put dst v) w):wpAnyH P md ops Q S (fuel+1) listed a w:=by
 subst hd
 exact wpAnyH_take hi hs hf hr hQ hy hS h
set_option maxHeartbeats 12800000 in
theorem rservice_any (w0:World)(base B:Nat)(X:SLoc)(L:RLoc)(M:RDat)(S:So)(t:Int)(w:World)(h:Ctx w0 w base X L M S)(hs:SoOk M.toM X.d S B)(hB:B≤89000)(t0:0≤t)(t1:t≤10000) :
  Calls Tryz.prog 94 #[.pointer (some ⟨X.gs,0,none⟩),.int .i64 t] w fun e w'=>e = .returned (.tuple #[])∧∃ X',X'.gs=X.gs∧X'.d=X.d∧Ctx w0 w' base X' L M (So.service M.toM X.d S t):=by
 have R:=right_of h.ok
 have c0:w.cell? ⟨X.gs,0,none⟩=some (.pointer (some ⟨L.gr,0,none⟩)):=by rw [h.solo.row.cell,← h.gr];rfl
 have c1:w.cell? ⟨X.gs,1,none⟩=some (.int .i64 X.d):=by rw [h.solo.row.cell];rfl
 have mr:=row_q h.ref.row
 have HQL:Hid (X.ql=S.queue.length):=h.solo.q.1
 have HW:=rserves_any M.c M.s X.d t
 have HR:Hid _:=R
 have HC:Hid _:=h.cfg
 clear R
 go_enter Tryz.func94,Tryz.ntmps94
 go_wp2_with fail
 go_cut [4] (fun s wx=>s = .bool (servesB M.c X.d t)∧Below w.heap.size w wx)
 case first=>
  go_region_with (go_at_call 120;refine (HW _ HC.out.drew HR.out t0 (by omega)).mono ?_;rintro e w1 ⟨rfl,hb1⟩;have hb2:=below_step ((Below.refl w.heap.size w).drew) hb1 rfl)
  all_goals go_wp2_with fail
  all_goals go_meet
  all_goals exact ⟨rfl,hb2⟩
 case rest=>
  obtain ⟨rfl,hbc⟩:=hcut
  obtain ⟨wa,hwa⟩:∃ wa,wa=wc:=⟨_,rfl⟩
  subst hwa
  have hx:Ctx w0 wa base X L M S:=h.reads hbc
  clear HW c0 c1 mr
  cases hsv:servesB M.c X.d t with
  | false=>
   have HZ:Hid (So.service M.toM X.d S t=S):=by unfold Hid So.service;rw [if_neg (show ¬servesB M.toM.c X.d t=true from by show ¬servesB M.c X.d t=true;rw [hsv];simp)]
   clear hsv
   go_wp2_with fail
   exact bodyPost_ret (results_none rfl _ _ _) rfl ⟨rfl,X,rfl,rfl,by rw [HZ.out];exact hx⟩
  | true=>
   have HZ:Hid (So.service M.toM X.d S t=So.serve M.toM X.d S t):=by unfold Hid So.service;rw [if_pos (show servesB M.toM.c X.d t=true from hsv)]
   clear hsv
   cases hq:S.queue with
   | nil=>
    have HZ2:Hid (So.service M.toM X.d S t=S):=by unfold Hid;rw [HZ.out];unfold So.serve;rw [hq]
    have r8:wa.cell? ⟨X.gs,8,none⟩=some (.slice X.qa 0 X.qc):=by
     have:X.ql=0:=by rw [HQL.out,hq];rfl
     rw [hx.solo.row.cell,← this];rfl
    clear hq
    go_wp2_with fail
    exact bodyPost_ret (results_none rfl _ _ _) rfl ⟨rfl,X,rfl,rfl,by rw [HZ2.out];exact hx⟩
   | cons core q=>
    obtain ⟨k,hck,hk,hk1⟩:=hs.qu core (by rw [hq];exact List.mem_cons_self ..)
    subst hck
    have hkc:k<M.c.cores.toNat:=hk
    have hf:=hs.w1 k hk hk1
    have hnx:=hs.nx k hk
    have hn:S.next.getD k 0<(progF M.toM X.d k).length:=by rcases hs.hw k hk with e | e <;> omega
    obtain ⟨pa,hpl,hp64,hpc⟩:=hx.prog hkc
    have HP:=rprogD_any X L M k (.slice pa (progF M.toM X.d k).length (progF M.toM X.d k).length)
    obtain ⟨ni,hni⟩:=Int.eq_ofNat_of_zero_le hnx.1
    have hnl:ni<(progF M.toM X.d k).length:=by omega
    have HNI:Hid (S.next.getD k 0=(ni:Int)):=hni
    have HOA:Hid (opAt M.toM X.d k S=(progF M.toM X.d k).getD ni (0,0,0)):=by unfold Hid opAt;rw [hni,Int.toNat_natCast]
    obtain ⟨pb,hpa,pc0,pc1,pc2⟩:=hpc wa hx.below ni hnl
    obtain ⟨q1,q2⟩:=hx.solo.q
    rcases q2 with ⟨_,_,e⟩|⟨qg,qoff,qcur,qa1,qa2,qa3,qa4,qa5,qa6,qa7,qb1,qb2,qb3,qb4⟩
    · rw [hq] at e;simp at e
    have ql1:X.ql=q.length+1:=by rw [q1,hq];rfl
    have qc0:wa.cell? ⟨qg,qoff,none⟩=some (.int .i64 k):=by
     have:=qa7 0 (by omega)
     rw [hq] at this
     rw [qa3.cell,← Nat.add_zero qoff]
     exact this
    have r0:wa.cell? ⟨X.gs,0,none⟩=some (.pointer (some ⟨L.gr,0,none⟩)):=by rw [hx.solo.row.cell,← h.gr];rfl
    have r4:wa.cell? ⟨X.gs,4,none⟩=some (.slice (some ⟨X.gn,0,none⟩) X.n X.n):=by rw [hx.solo.row.cell];rfl
    have r8:wa.cell? ⟨X.gs,8,none⟩=some (.slice (some ⟨qg,qoff,none⟩) X.ql X.qc):=by rw [hx.solo.row.cell,← qa1];rfl
    have rm2:wa.cell? ⟨L.gr,2,none⟩=some (.int .i64 M.c.line):=by rw [hx.ref.row.cell];rfl
    have hkn:k<X.n:=by rw [h.n];exact hkc
    have n3:X.n≤3:=by rw [h.n];have:=HR.out.c2;omega
    have e4:wa.cell? ⟨X.gn,k,none⟩=some (.int .i64 ni):=by rw [← HNI.out];exact row_int hx.solo.nx (by rw [hx.solo.nl];exact hkn)
    have HJ:Hid ((k:Int)<M.c.cores):=by unfold Hid;have:=HR.out.c1;omega
    generalize (progF M.toM X.d k).getD ni (0,0,0)=op at *
    obtain ⟨okd,oad,ovl⟩:=op
    dsimp only at pc0 pc1 pc2
    subst hpa
    have HQ:Hid _:=hq
    have qz:(X.ql:Int)≠0:=by omega
    have qz':((X.ql:Int)==0)=false:=by simpa using qz
    clear hq hni
    go_wp2_with fail
    go_cut [6] (fun p wx=>∃ b,p = .pointer (some ⟨b,0,none⟩)∧Row wx b [.int .i64 okd,.int .i64 oad,.int .i64 ovl] 69∧Below wa.heap.size wa wx)
    case first=>
     have HPW:Hid (∀ W,Below wa.heap.size wa W→Row W X.gs (soloL X) 126∧RefM W L M):=fun W hW=>⟨(hx.reads hW).solo.row,(hx.reads hW).ref⟩
     have HBd:Hid (Below wa.heap.size wa wa.drew):=(Below.refl _ _).drew
     have HBa:Hid (∀ o,Below wa.heap.size wa (wa.alloc o).drew):=fun o=>((Below.refl _ _).alloc (Nat.le_refl _) _).drew
     have lpb:pb<wa.heap.size:=cell_lt pc0
     have lgs:=hx.solo.row.lt
     have lgn:=hx.solo.nx.lt
     go_region_with (go_at_call 124;first | (refine (HP _ (HPW.out _ HBd.out).1 (HPW.out _ HBd.out).2 h.gr h.d HJ.out hpl).mono ?_;rintro e w1 ⟨rfl,rfl⟩) | (refine (HP _ (HPW.out _ (HBa.out _)).1 (HPW.out _ (HBa.out _)).2 h.gr h.d HJ.out hpl).mono ?_;rintro e w1 ⟨rfl,rfl⟩))
     all_goals go_wp2_with fail
     all_goals go_meet
     all_goals exact ⟨wa.heap.size,rfl,heap_alloc_new wa _,(((Below.refl _ _).alloc (Nat.le_refl _) _).drew).drew⟩
    case rest=>
     obtain ⟨b,rfl,rB,hbd⟩:=hcut
     have hy:Ctx w0 wc base X L M S:=hx.reads hbd
     have HSV:Hid (So.service M.toM X.d S t=So.serve M.toM X.d S t):=HZ
     have HOK:Hid _:=hs.log
     have a0:0≤oad:=by have:=fault_none hf;rw [HOA.out] at this;exact this.1
     have a1:oad<M.c.priv+M.c.shared:=by have:=fault_none hf;rw [HOA.out] at this;exact this.2
     obtain ⟨x0,x1⟩:=line_ok h.ok a0 a1
     obtain ⟨_,_,_,_,_,hsets,hline,pv1,pv2,sh0,sh1⟩:=shape_bounds (chk_zero h.ok).1
     have y1:0<M.c.line:=by omega
     have y0:¬M.c.line=0:=by omega
     have z1:0<M.c.sets:=by omega
     have z0:¬M.c.sets=0:=by omega
     clear hsets hline
     have r0:wc.cell? ⟨X.gs,0,none⟩=some (.pointer (some ⟨L.gr,0,none⟩)):=by rw [hy.solo.row.cell,← h.gr];rfl
     have rm2:wc.cell? ⟨L.gr,2,none⟩=some (.int .i64 M.c.line):=by rw [hy.ref.row.cell];rfl
     have d0:wc.cell? ⟨b,0,none⟩=some (.int .i64 okd):=by rw [rB.cell];rfl
     have d1:wc.cell? ⟨b,1,none⟩=some (.int .i64 oad):=by rw [rB.cell];rfl
     have d2:wc.cell? ⟨b,2,none⟩=some (.int .i64 ovl):=by rw [rB.cell];rfl
     have hlm:X.ll≤100000:=by have:=hs.lb;have:=h.solo.ll;omega
     have HLA:Hid (∀ W,Below wc.heap.size wc W→SoR W X M.c M.s L M.T∧LogAt W X.la X.ll S.log):=fun W hW=>⟨(hy.reads hW).sor,(hy.reads hW).solo.logAt hlm⟩
     go_wp2_with fail
     go_quiet (fail)
     go_wp2_with fail
     refine (rwhere_any X M.c M.s L M.T (oad / M.c.line) S.log _ (HLA.out _ (Go.below_drewN (Below.refl _ _) _)).1 (HLA.out _ (Go.below_drewN (Below.refl _ _) _)).2).mono ?_;rintro e wd ⟨rfl,hbe⟩
     have hbf:Below wc.heap.size wc wd:=(Go.below_drewN (Below.refl _ _) _).trans hbe
     have hz:Ctx w0 wd base X L M S:=hy.reads hbf
     have rD:=rB.below hbf rB.lt
     clear r0 rm2 d0 d1 d2
     generalize hxx:oad / M.c.line=x at *
     have HX:Hid _:=hxx
     clear hxx
     have v0:wd.cell? ⟨X.gs,8,none⟩=some (.slice X.qa X.ql X.qc):=by rw [hz.solo.row.cell];rfl
     have vf:wd.frozen? ⟨X.gs,8,none⟩=false:=hz.solo.row.frozen 8
     have d0:wd.cell? ⟨b,0,none⟩=some (.int .i64 okd):=by rw [rD.cell];rfl
     have d1:wd.cell? ⟨b,1,none⟩=some (.int .i64 oad):=by rw [rD.cell];rfl
     have d2:wd.cell? ⟨b,2,none⟩=some (.int .i64 ovl):=by rw [rD.cell];rfl
     have LB:Hid (S.log.length≤89000):=by have:=hs.lb;unfold Hid;omega
     have EB:Hid (S.evs.length≤89000):=by have:=hs.eb;unfold Hid;omega
     have HNX:Hid (0≤S.next.getD k 0∧S.next.getD k 0≤64):=⟨hnx.1,by omega⟩
     have HOAx:Hid (opAt M.toM X.d k S=(okd,oad,ovl)):=HOA
     by_cases w1:0≤whereF x S.log
     ·
      rw [qa1] at v0
      have HQ1:Hid (X.ql=q.length+1):=ql1
      have qp:1≤X.ql:=by omega
      have qcp:X.ql≤X.qc:=qa4
      have Q3:=qa3.same (show wd.heap[qg]? = wa.heap[qg]? from ((hbd.trans (hbf.mono hbd.size)).block qg qa3.lt))
      have HPOP:Hid (∀ off' cap' m,m=q.length→((X.qc=1∧off'=qoff∧cap'=0)∨(off'=qoff+1∧cap'=X.qc-1))→_):=fun off' cap' m hm hc=>hz.solo.pop HQ.out qa2 Q3 qa4 qa5 qa6 qa7 ⟨qb1,qb2,qb3,qb4⟩ off' cap' m hm hc
      clear q1 ql1 qz qz' qc0
      go_upto_region 7 with fail
      go_cut [] (fun wx=>∃ X',X'.gs=X.gs∧X'.gr=X.gr∧X'.d=X.d∧X'.n=X.n∧X'.ll=X.ll∧SoloM wx base X' { S with queue:=q }∧Below base wd wx∧KeepP wd wx)
      case first=>
       go_wp2_with fail
       all_goals go_meet
       all_goals
        obtain ⟨p1,p2,p3⟩:=HPOP.out _ _ (X.ql-1) (by have:=HQ1.out;omega) (by first|exact Or.inl ⟨by omega,rfl,rfl⟩|exact Or.inr ⟨rfl,rfl⟩)
        refine ⟨_,?_,?_,?_,?_,?_,p1,p2,p3⟩ <;> rfl
      case rest=>
       obtain ⟨X1,g1,g2,g3,g4,g5,hS1,hB1,hK1⟩:=hcut
       obtain ⟨we,hwe⟩:∃ we,we=wc:=⟨_,rfl⟩
       subst hwe
       have hz1:Ctx w0 we base X1 L M { S with queue:=q }:=hz.writes hS1 hB1 g2 g3 g4
       have rE:=hK1 _ _ rD
       have HG1:Hid _:=g1
       rw [← g1]
       clear g1 v0 vf d0 d1 d2
       have hk1':k<X1.n:=by rw [g4];exact hkn
       have hn1':X1.n≤3:=by rw [g4];exact n3
       by_cases k1:okd=1
       ·
        subst k1
        have HSE:Hid _:=(HSV.out.trans (serve_store (M:=M.toM) HQ.out HOAx.out HX.out w1)).symm
        have d0:we.cell? ⟨b,0,none⟩=some (.int .i64 1):=by rw [rE.cell];rfl
        go_wp2_with fail
        refine (rtold_any base X1 { S with queue:=q } ⟨t,3,k,x,whereF x S.log,true,false,0,0⟩ _ hS1 (by have:=LB.out;show S.log.length≤90000;omega)).mono ?_;rintro e wf ⟨rfl,la1,lc1,hS2,hB2,hK2⟩
        have rF:=hK2 _ _ rE
        have d1:wf.cell? ⟨b,1,none⟩=some (.int .i64 oad):=by rw [rF.cell];rfl
        have d2:wf.cell? ⟨b,2,none⟩=some (.int .i64 ovl):=by rw [rF.cell];rfl
        go_wp2_with fail
        refine (rtold_any base _ _ ⟨t,4,k,x,whereF x S.log,false,false,oad,ovl⟩ _ hS2 (by have:=LB.out;show S.log.length+1≤90000;omega)).mono ?_;rintro e wg ⟨rfl,la2,lc2,hS3,hB3,hK3⟩
        have rG:=hK3 _ _ rF
        have d3:wg.cell? ⟨b,2,none⟩=some (.int .i64 ovl):=by rw [rG.cell];rfl
        go_wp2_with fail
        refine (rdone_any base _ _ k t ovl 0 _ hS3 hk1' hn1' (by have:=EB.out;show S.evs.length≤90000;omega) HNX.out.1 (by have:=HNX.out.2;show S.next.getD k 0≤1000;omega) t0 (by omega)).mono ?_;rintro e wh ⟨rfl,ea1,ec1,hS4,hB4,hK4⟩
        go_wp2_with fail
        have hF:=hz1.writes hS4 (hB2.trans (hB3.trans hB4)) rfl rfl rfl
        rw [HSE.out] at hF
        refine bodyPost_ret (results_none rfl _ _ _) rfl ⟨rfl,_,?_,?_,hF⟩
        · exact HG1.out
        · exact g3
       ·
        have k1':(okd==1)=false:=by simpa using k1
        have HSE:Hid _:=(HSV.out.trans (serve_load (M:=M.toM) HQ.out HOAx.out k1 HX.out w1)).symm
        clear k1
        have d0:we.cell? ⟨b,0,none⟩=some (.int .i64 okd):=by rw [rE.cell];rfl
        have hlm1:X1.ll≤100000:=by rw [g5];exact hlm
        go_wp2_with fail
        refine (rlone_any X1 M.c M.s L M.T k x t S.log _ hz1.sor (hz1.solo.logAt hlm1) HOK.out x0).mono ?_;rintro e wf ⟨rfl,hbf1⟩
        have hz2:=hz1.reads hbf1
        have rF:=rE.below hbf1 rE.lt
        have d1:wf.cell? ⟨b,1,none⟩=some (.int .i64 oad):=by rw [rF.cell];rfl
        have s0:wf.cell? ⟨X1.gs,0,none⟩=some (.pointer (some ⟨L.gr,0,none⟩)):=by rw [hz2.solo.row.cell,← hz2.gr];rfl
        have m3:wf.cell? ⟨L.gr,3,none⟩=some (.int .i64 M.c.priv):=by rw [hz2.ref.row.cell];rfl
        clear d0
        have hz3:Ctx w0 wf.drew base X1 L M { S with queue:=q }:=hz2.reads ((Below.refl _ _).drew)
        obtain ⟨lo,hlo⟩:∃ lo,(loneF M.c k x t S.log M.c.cores.toNat 0&&decide (oad<M.c.priv))=lo:=⟨_,rfl⟩
        have HLO:Hid _:=hlo
        have HSE2:Hid ((({ S with queue:=q }:So).told ⟨t,3,k,x,whereF x S.log,false,lo,0,0⟩).done k t (wordF oad (firstF0 M.toM X.d oad) (⟨t,3,k,x,whereF x S.log,false,lo,0,0⟩::S.log)) 0=So.service M.toM X.d S t):=by
         have:=HSE.out
         unfold Hid
         rw [← hlo]
         exact this
        clear hlo
        go_wp2_with fail
        go_cut [9] (fun _ wx=>∃ la lc,SoloM wx base { X1 with la:=la,ll:=S.log.length+1,lc:=lc } (({ S with queue:=q }:So).told ⟨t,3,k,x,whereF x S.log,false,lo,0,0⟩)∧Below base wf wx∧KeepP wf wx)
        case first=>
         cases hl1:loneF M.c k x t S.log M.c.cores.toNat 0 with
         | true=>
          have hlo2:decide (oad<M.c.priv)=lo:=by rw [← HLO.out,hl1];rfl
          subst hlo2
          go_region_held3 (fun w'=>w'.cell? ⟨b,1,none⟩=some (.int .i64 oad)∧w'.cell? ⟨X1.gs,0,none⟩=some (.pointer (some ⟨L.gr,0,none⟩))∧w'.cell? ⟨L.gr,3,none⟩=some (.int .i64 M.c.priv)) (first | go_keep | exact ⟨kp1,kp2,kp3⟩) (first | (go_at_call 127;refine (rtold_any base X1 { S with queue:=q } ⟨t,3,k,x,whereF x S.log,false,decide (oad<M.c.priv),0,0⟩ _ hz3.solo (by have:=LB.out;show S.log.length≤90000;omega)).mono ?_;rintro e wg ⟨rfl,la1,lc1,hS2,hB2,hK2⟩;have kp1:wg.cell? ⟨b,1,none⟩=some (.int .i64 oad):=(hK2 _ _ rF).cell 1;have kp2:wg.cell? ⟨X1.gs,0,none⟩=some (.pointer (some ⟨L.gr,0,none⟩)):=(hS2.row.cell 0).trans (by rw [← hz2.gr];rfl);have kp3:wg.cell? ⟨L.gr,3,none⟩=some (.int .i64 M.c.priv):=(hz3.writes hS2 hB2 rfl rfl rfl).ref.row.cell 3))
          all_goals go_wp2_with fail
          all_goals go_meet
          all_goals exact ⟨la1,lc1,hS2,((Below.refl base wf).drew).trans hB2,(KeepP.below ((Below.refl _ _).drew) (Nat.le_refl _)).trans hK2⟩
         | false=>
          have hlo2:false=lo:=by rw [← HLO.out,hl1];rfl
          subst hlo2
          clear d1 s0 m3
          refine wp_region_held_drew (S:=fun _=>True) (by rfl) trivial (fun hST=>?_)
          refine takeAt (i:=0) (dst:=some 111) (v:=?_) rfl rfl (by kernel_rfl) (by kernel_rfl) (by kernel_rfl) (fun _ _ _ h=>h) (Or.inl ⟨by rfl,?hy⟩) (by assumption) ?_
          case hy=>intro w hSw;go_simp;try with_reducible rfl
          simp only [Act.put,List.setIfInBounds_toArray,List.set_cons_zero,List.set_cons_succ]
          refine takeAt (i:=1) (dst:=some 112) (v:=?_) rfl rfl (by kernel_rfl) (by kernel_rfl) (by kernel_rfl) (fun _ _ _ h=>h) (Or.inl ⟨by rfl,?hy⟩) (by assumption) ?_
          case hy=>intro w hSw;go_simp;try with_reducible rfl
          simp only [Act.put,List.setIfInBounds_toArray,List.set_cons_zero,List.set_cons_succ]
          refine takeAt (i:=2) (dst:=some 113) (v:=?_) rfl rfl (by kernel_rfl) (by kernel_rfl) (by kernel_rfl) (fun _ _ _ h=>h) (Or.inl ⟨by rfl,?hy⟩) (by assumption) ?_
          case hy=>intro w hSw;go_simp;try with_reducible rfl
          simp only [Act.put,List.setIfInBounds_toArray,List.set_cons_zero,List.set_cons_succ]
          refine takeAt (i:=3) (dst:=some 114) (v:=?_) rfl rfl (by kernel_rfl) (by kernel_rfl) (by kernel_rfl) (fun _ _ _ h=>h) (Or.inl ⟨by rfl,?hy⟩) (by assumption) ?_
          case hy=>intro w hSw;go_simp;try with_reducible rfl
          simp only [Act.put,List.setIfInBounds_toArray,List.set_cons_zero,List.set_cons_succ]
          refine takeAt (i:=4) (dst:=some 115) (v:=?_) rfl rfl (by kernel_rfl) (by kernel_rfl) (by kernel_rfl) (fun _ _ _ h=>h) (Or.inl ⟨by rfl,?hy⟩) (by assumption) ?_
          case hy=>intro w hSw;go_simp;try with_reducible rfl
          simp only [Act.put,List.setIfInBounds_toArray,List.set_cons_zero,List.set_cons_succ]
          refine takeAt (i:=5) (dst:=some 116) (v:=?_) rfl rfl (by kernel_rfl) (by kernel_rfl) (by kernel_rfl) (fun _ _ _ h=>h) (Or.inl ⟨by rfl,?hy⟩) (by assumption) ?_
          case hy=>intro w hSw;go_simp;try with_reducible rfl
          simp only [Act.put,List.setIfInBounds_toArray,List.set_cons_zero,List.set_cons_succ]
          refine takeAt (i:=6) (dst:=some 117) (v:=?_) rfl rfl (by kernel_rfl) (by kernel_rfl) (by kernel_rfl) (fun _ _ _ h=>h) (Or.inl ⟨by rfl,?hy⟩) (by assumption) ?_
          case hy=>intro w hSw;go_simp;try with_reducible rfl
          simp only [Act.put,List.setIfInBounds_toArray,List.set_cons_zero,List.set_cons_succ]
          refine takeAt (i:=7) (dst:=some 118) (v:=undef) rfl rfl (by kernel_rfl) (by kernel_rfl) (by kernel_rfl) (fun _ _ _ h=>h) (Or.inr ⟨by rfl,rfl⟩) (by assumption) ?_
          simp only [Act.put,List.setIfInBounds_toArray,List.set_cons_zero,List.set_cons_succ]
          refine takeAt (i:=8) (dst:=some 119) (v:=undef) rfl rfl (by kernel_rfl) (by kernel_rfl) (by kernel_rfl) (fun _ _ _ h=>h) (Or.inr ⟨by rfl,rfl⟩) (by assumption) ?_
          simp only [Act.put,List.setIfInBounds_toArray,List.set_cons_zero,List.set_cons_succ]
          refine takeAt (i:=9) (dst:=some 120) (v:=undef) rfl rfl (by kernel_rfl) (by kernel_rfl) (by kernel_rfl) (fun _ _ _ h=>h) (Or.inr ⟨by rfl,rfl⟩) (by assumption) ?_
          simp only [Act.put,List.setIfInBounds_toArray,List.set_cons_zero,List.set_cons_succ]
          refine takeAt (i:=10) (dst:=some 121) (v:=undef) rfl rfl (by kernel_rfl) (by kernel_rfl) (by kernel_rfl) (fun _ _ _ h=>h) (Or.inr ⟨by rfl,rfl⟩) (by assumption) ?_
          simp only [Act.put,List.setIfInBounds_toArray,List.set_cons_zero,List.set_cons_succ]
          refine takeAt (i:=11) (dst:=some 122) (v:=undef) rfl rfl (by kernel_rfl) (by kernel_rfl) (by kernel_rfl) (fun _ _ _ h=>h) (Or.inr ⟨by rfl,rfl⟩) (by assumption) ?_
          simp only [Act.put,List.setIfInBounds_toArray,List.set_cons_zero,List.set_cons_succ]
          refine takeAt (i:=12) (dst:=some 123) (v:=undef) rfl rfl (by kernel_rfl) (by kernel_rfl) (by kernel_rfl) (fun _ _ _ h=>h) (Or.inr ⟨by rfl,rfl⟩) (by assumption) ?_
          simp only [Act.put,List.setIfInBounds_toArray,List.set_cons_zero,List.set_cons_succ]
          refine takeAt (i:=13) (dst:=some 124) (v:=undef) rfl rfl (by kernel_rfl) (by kernel_rfl) (by kernel_rfl) (fun _ _ _ h=>h) (Or.inr ⟨by rfl,rfl⟩) (by assumption) ?_
          simp only [Act.put,List.setIfInBounds_toArray,List.set_cons_zero,List.set_cons_succ]
          refine takeAt (i:=14) (dst:=some 125) (v:=undef) rfl rfl (by kernel_rfl) (by kernel_rfl) (by kernel_rfl) (fun _ _ _ h=>h) (Or.inr ⟨by rfl,rfl⟩) (by assumption) ?_
          simp only [Act.put,List.setIfInBounds_toArray,List.set_cons_zero,List.set_cons_succ]
          refine takeAt (i:=15) (dst:=some 126) (v:=undef) rfl rfl (by kernel_rfl) (by kernel_rfl) (by kernel_rfl) (fun _ _ _ h=>h) (Or.inr ⟨by rfl,rfl⟩) (by assumption) ?_
          simp only [Act.put,List.setIfInBounds_toArray,List.set_cons_zero,List.set_cons_succ]
          refine takeAt (i:=16) (dst:=some 127) (v:=undef) rfl rfl (by kernel_rfl) (by kernel_rfl) (by kernel_rfl) (fun _ _ _ h=>h) (Or.inr ⟨by rfl,rfl⟩) (by assumption) ?_
          simp only [Act.put,List.setIfInBounds_toArray,List.set_cons_zero,List.set_cons_succ]
          refine takeAt (i:=17) (dst:=some 128) (v:=undef) rfl rfl (by kernel_rfl) (by kernel_rfl) (by kernel_rfl) (fun _ _ _ h=>h) (Or.inr ⟨by rfl,rfl⟩) (by assumption) ?_
          simp only [Act.put,List.setIfInBounds_toArray,List.set_cons_zero,List.set_cons_succ]
          refine takeAt (i:=18) (dst:=some 129) (v:=?_) rfl rfl (by kernel_rfl) (by kernel_rfl) (by kernel_rfl) (fun _ _ _ h=>h) (Or.inl ⟨by rfl,?hy⟩) (by assumption) ?_
          case hy=>intro w hSw;go_simp;try with_reducible rfl
          simp only [Act.put,List.setIfInBounds_toArray,List.set_cons_zero,List.set_cons_succ]
          refine takeAt (i:=19) (dst:=some 130) (v:=?_) rfl rfl (by kernel_rfl) (by kernel_rfl) (by kernel_rfl) (fun _ _ _ h=>h) (Or.inl ⟨by rfl,?hy⟩) (by assumption) ?_
          case hy=>intro w hSw;go_simp;try with_reducible rfl
          simp only [Act.put,List.setIfInBounds_toArray,List.set_cons_zero,List.set_cons_succ]
          refine wpAnyH_ready (rs:=[20]) (by kernel_rfl) (by simp) ?_
          refine AllReadyH.cons rfl (fun K hK=>?_) AllReadyH.nil
          go_simp
          go_wp2_with (go_at_call 127;refine (rtold_any base X1 { S with queue:=q } ⟨t,3,k,x,whereF x S.log,false,false,0,0⟩ _ hz3.solo (by have:=LB.out;show S.log.length≤90000;omega)).mono ?_;rintro e wg ⟨rfl,la1,lc1,hS2,hB2,hK2⟩)
          refine hK.out _ _ trivial (fun hHeld=>?_)
          clear hK K
          refine wpAnyH_done (by kernel_rfl) ?_ _
          go_wp2_with fail
          go_meet
          exact ⟨la1,lc1,hS2,((Below.refl base wf).drew).trans hB2,(KeepP.below ((Below.refl _ _).drew) (Nat.le_refl _)).trans hK2⟩
        case rest=>
         obtain ⟨la1,lc1,hS2,hB2,hK2⟩:=hcut
         obtain ⟨wg,hwg⟩:∃ wg,wg=wc:=⟨_,rfl⟩
         subst hwg
         have hz4:=hz2.writes hS2 hB2 rfl rfl rfl
         have rG:=hK2 _ _ rF
         have hz5:=hz4.reads (w':=wg.drew) ((Below.refl _ _).drew)
         have hl5:=hz5.solo.logAt (by show S.log.length+1≤100000;have:=LB.out;omega)
         have d1':wg.cell? ⟨b,1,none⟩=some (.int .i64 oad):=by rw [rG.cell];rfl
         have s2:wg.cell? ⟨X1.gs,2,none⟩=some (.slice la1 (S.log.length+1) lc1):=by rw [hS2.row.cell];rfl
         have LB2:S.log.length≤89000:=LB.out
         clear d1 s0 m3
         go_wp2_with fail
         go_cut [10] (fun v wx=>v = .int .i64 (wordF oad (firstF0 M.toM X.d oad) (⟨t,3,k,x,whereF x S.log,false,lo,0,0⟩::S.log))∧Below wg.heap.size wg wx)
         case first=>
          have HWD:Hid _:=rword_any { X1 with la:=la1,ll:=S.log.length+1,lc:=lc1 } L M oad (S.log.length+1) (⟨t,3,k,x,whereF x S.log,false,lo,0,0⟩::S.log) wg.drew hz5.solo.row hz5.ref hz5.gr hz5.d a0 a1 hl5 (Nat.le_refl _)
          go_region_held3 (fun w'=>w'.cell? ⟨b,1,none⟩=some (.int .i64 oad)∧w'.cell? ⟨X1.gs,2,none⟩=some (.slice la1 (S.log.length+1) lc1)) (first | go_keep | exact ⟨kp1,kp2⟩) (first | (go_at_call 96;refine Calls.mono HWD.out ?_;rintro e wh ⟨rfl,hb7⟩;have kp1:wh.cell? ⟨b,1,none⟩=some (.int .i64 oad):=((rG.below ((Below.refl wg.heap.size wg).drew) rG.lt).below hb7 rG.lt).cell 1;have kp2:wh.cell? ⟨X1.gs,2,none⟩=some (.slice la1 (S.log.length+1) lc1):=(hz5.reads hb7).solo.row.cell 2))
          all_goals go_wp2_with fail
          all_goals go_meet
          all_goals refine ⟨?_,((Below.refl wg.heap.size wg).drew).trans hb7⟩
          all_goals
           have e9:(((⟨t,3,k,x,whereF x S.log,false,lo,0,0⟩:Ent)::S.log).length-(S.log.length+1))=0:=by simp
           first | rfl | (rw [g3]) | (rw [e9,List.drop_zero,g3])
         case rest=>
          obtain ⟨rfl,hb8⟩:=hcut
          have hz6:=hz4.reads hb8
          go_wp2_with fail
          refine (rdone_any base _ _ k t _ 0 _ hz6.solo hk1' hn1' (by have:=EB.out;show S.evs.length≤90000;omega) HNX.out.1 (by have:=HNX.out.2;show S.next.getD k 0≤1000;omega) t0 (by omega)).mono ?_;rintro e wh ⟨rfl,ea1,ec1,hS4,hB4,hK4⟩
          go_wp2_with fail
          have hF:=hz6.writes hS4 hB4 rfl rfl rfl
          rw [HSE2.out] at hF
          refine bodyPost_ret (results_none rfl _ _ _) rfl ⟨rfl,_,?_,?_,hF⟩
          · exact HG1.out
          · exact g3
     ·
      have HD:=ways_small h.ok (d:=X.d) (by have:=h.ref.nd;have:=h.d;omega)
      have HD:Hid _:=HD
      have HCC:=rchosen_any X M.c M.s L M.T (x%M.c.sets) S.log
      obtain ⟨way,hway⟩:∃ way,chosenF M.c (M.c.ways.count (X.d:Int)) (x%M.c.sets) S.log=way:=⟨_,rfl⟩
      rw [hway] at HCC
      obtain ⟨y,hyy⟩:∃ y,liesF M.c (x%M.c.sets) way S.log=y:=⟨_,rfl⟩
      have HLI:=rlies_any X M.c M.s L M.T (x%M.c.sets) way S.log
      rw [hyy] at HLI
      have HWAY:Hid _:=hway
      have HYY:Hid _:=hyy
      clear hway hyy
      have s0:wd.cell? ⟨X.gs,0,none⟩=some (.pointer (some ⟨L.gr,0,none⟩)):=by rw [hz.solo.row.cell,← hz.gr];rfl
      have m6:wd.cell? ⟨L.gr,6,none⟩=some (.int .i64 M.c.sets):=by rw [hz.ref.row.cell];rfl
      have HLB:Hid (∀ W,Below wd.heap.size wd W→SoR W X M.c M.s L M.T∧LogAt W X.la X.ll S.log∧Ints W M.s.wa M.s.wl M.s.wc M.c.ways):=fun W hW=>⟨(hz.reads hW).sor,(hz.reads hW).solo.logAt hlm,(hz.reads hW).cfg.ways⟩
      clear v0 vf d0 d1 d2
      go_wp2_with fail
      obtain ⟨i1,i2,i3⟩:=HLB.out wd (Below.refl _ _)
      refine (HCC _ i1 i3 i2 HOK.out HD.out).mono ?_;rintro e we ⟨rfl,hb1⟩
      go_wp2_with fail
      obtain ⟨j1,j2,j3⟩:=HLB.out we hb1
      refine (HLI _ j1 j2 HOK.out).mono ?_;rintro e wf ⟨rfl,hb2⟩
      have hb3:=hb1.trans (hb2.mono hb1.size)
      obtain ⟨l1,l2,l3⟩:=HLB.out wf hb3
      by_cases y2:0≤y
      ·
       go_wp2_with fail
       refine (rmarked_any X M.c M.s L M.T y S.log _ l1 l2 HOK.out).mono ?_;rintro e wg ⟨rfl,hb4⟩
       have hb5:=hb3.trans (hb4.mono hb3.size)
       have hz7:=hz.reads hb5
       go_wp2_with fail
       refine (rtold_any base X S ⟨t,2,0,y,way,false,false,0,0⟩ _ hz7.solo (by have:=LB.out;omega)).mono ?_;rintro e wh ⟨rfl,la1,lc1,hS2,hB2,hK2⟩
       have hz8:=hz7.writes hS2 hB2 rfl rfl rfl
       cases hm:markedF y S.log with
       | true=>
        have HSE:Hid _:=(HSV.out.trans (serve_gone (M:=M.toM) HQ.out HOAx.out HX.out (by omega) HWAY.out HYY.out y2 hm)).symm
        clear hm
        go_wp2_with fail
        have hF:=hz8
        rw [HSE.out] at hF
        refine bodyPost_ret (results_none rfl _ _ _) rfl ⟨rfl,_,?_,?_,hF⟩ <;> rfl
       | false=>
        have HSE:Hid _:=(HSV.out.trans (serve_both (M:=M.toM) HQ.out HOAx.out HX.out (by omega) HWAY.out HYY.out y2 hm)).symm
        clear hm
        go_wp2_with fail
        refine (rtold_any base _ _ ⟨t,1,0,x,way,false,false,0,0⟩ _ hz8.solo (by have:=LB.out;show S.log.length+1≤90000;omega)).mono ?_;rintro e wi ⟨rfl,la2,lc2,hS3,hB3,hK3⟩
        go_wp2_with fail
        have hF:=hz8.writes hS3 hB3 rfl rfl rfl
        rw [HSE.out] at hF
        refine bodyPost_end (results_none rfl _ _ _) rfl ⟨rfl,_,?_,?_,hF⟩ <;> rfl
      ·
       have HSE:Hid _:=(HSV.out.trans (serve_fill (M:=M.toM) HQ.out HOAx.out HX.out (by omega) HWAY.out HYY.out (by omega))).symm
       have hz7:=hz.reads hb3
       go_wp2_with fail
       refine (rtold_any base X S ⟨t,1,0,x,way,false,false,0,0⟩ _ hz7.solo (by have:=LB.out;omega)).mono ?_;rintro e wh ⟨rfl,la1,lc1,hS2,hB2,hK2⟩
       go_wp2_with fail
       have hF:=hz7.writes hS2 hB2 rfl rfl rfl
       rw [HSE.out] at hF
       refine bodyPost_end (results_none rfl _ _ _) rfl ⟨rfl,_,?_,?_,hF⟩ <;> rfl
end Go.Proofs.YtehheaedbnfidaaGreat
