import Derived.Test.YtehheaedbnfidaaGreatClRefSC
import Derived.Test.YtehheaedbnfidaaGreatClWRefQ
set_option maxRecDepth 100000
namespace Go.Proofs.YtehheaedbnfidaaGreat
open Go.RowKit
set_option maxHeartbeats 12800000 in
theorem rworks_wait (w0:World)(base B:Nat)(X:SLoc)(L:RLoc)(M:RDat)(S:So)(k:Nat)(t:Int)(w:World)(h:Ctx w0 w base X L M S)(hs:SoOk M.toM X.d S B)(hB:B≤89000)(hk:k<M.c.cores.toNat)(t0:0≤t)(t1:t≤10000)
  (h0:S.how.getD k 0=0) (hfr:¬t<S.free.getD k 0) (hnl:S.next.getD k 0<(progF M.toM X.d k).length) (hop:openB M.c k X.d t=true) (hfa:faultF M.c (opAt M.toM X.d k S)=0) (hwt:(stateF M.c k ((opAt M.toM X.d k S).2.1 / M.c.line) t false S.log=0∨((opAt M.toM X.d k S).1=1∧stateF M.c k ((opAt M.toM X.d k S).2.1 / M.c.line) t false S.log=1))) :
  Calls Tryz.prog 95 #[.pointer (some ⟨X.gs,0,none⟩),.int .i64 k,.int .i64 t] w fun e w'=>e = .returned (.tuple #[])∧∃ X',X'.gs=X.gs∧X'.d=X.d∧Ctx w0 w' base X' L M (So.begin M.toM X.d k S t):=by
 have R:=right_of h.ok
 have hkc:(k:Int)<M.c.cores:=by have:=R.c1;omega
 obtain ⟨pa,hpl,hp64,hpc⟩:=h.prog hk
 have HP:=rprogD_any X L M k (.slice pa (progF M.toM X.d k).length (progF M.toM X.d k).length) w h.solo.row h.ref h.gr h.d hkc hpl
 have hz:=h.reads (w':=w.drew) ((Below.refl _ _).drew)
 have hkn:k<X.n:=by rw [h.n];exact hk
 have n3:X.n≤3:=by rw [h.n];have:=R.c2;omega
 have hn0:=hs.nx k hk
 have hf0:=hs.fr k hk
 obtain ⟨ni,hni⟩:=Int.eq_ofNat_of_zero_le hn0.1
 have hnl':ni<(progF M.toM X.d k).length:=by omega
 have HNI:Hid (S.next.getD k 0=(ni:Int)):=hni
 have HOA:Hid (opAt M.toM X.d k S=(progF M.toM X.d k).getD ni (0,0,0)):=by unfold Hid opAt;rw [hni,Int.toNat_natCast]
 have r0:w.drew.cell? ⟨X.gs,0,none⟩=some (.pointer (some ⟨L.gr,0,none⟩)):=by rw [hz.solo.row.cell,← h.gr];rfl
 have r1:w.drew.cell? ⟨X.gs,1,none⟩=some (.int .i64 X.d):=by rw [hz.solo.row.cell];rfl
 have r6:w.drew.cell? ⟨X.gs,6,none⟩=some (.slice (some ⟨X.gb,0,none⟩) X.n X.n):=by rw [hz.solo.row.cell];rfl
 have r7:w.drew.cell? ⟨X.gs,7,none⟩=some (.slice (some ⟨X.gh,0,none⟩) X.n X.n):=by rw [hz.solo.row.cell];rfl
 have e7:w.drew.cell? ⟨X.gh,k,none⟩=some (.int .i64 0):=by rw [← h0];exact row_int hz.solo.hx (by rw [hz.solo.hl];exact hkn)
 have mr:=row_q hz.ref.row
 have lr:=hz.ref.row.lt
 have lg:=hz.solo.row.lt
 have HOP:=ropen_any M.c M.s k X.d t
 rw [hop] at HOP
 have HCF:Hid (∀ W,Below w.heap.size w W→CfgAt W M.c M.s):=fun W hW=>(h.reads hW).cfg
 have HRX:Hid (∀ W,Below w.heap.size w W→Ctx w0 W base X L M S):=fun W hW=>h.reads hW
 have HPC:Hid _:=hpc
 have HR:Hid _:=R
 have HS:Hid _:=hs
 have HH0:Hid _:=h0
 have HFR:Hid _:=hfr
 have HOK:Hid _:=h.ok
 have HN:Hid _:=h.n
 have fv0:S.free.getD k 0≤t:=by omega
 have HFV:Hid _:=fv0
 obtain ⟨pl,hplen⟩:∃ pl,(progF M.toM X.d k).length=pl:=⟨_,rfl⟩
 rw [hplen] at HP hp64 hnl hnl' HPC
 have HPLN:Hid _:=hplen
 have hni0:(0:Int)≤(ni:Int):=by omega
 have hni1:(ni:Int)<(pl:Int):=by omega
 clear h hs hz hpl hpc R hni hop hnl hn0 h0 hfr fv0 hplen
 have HFA:Hid _:=hfa
 have HWT:Hid _:=hwt
 clear hfa hwt
 go_enter Tryz.func95,Tryz.ntmps95
 go_wp2_with fail
 refine HP.mono ?_;rintro e w1 ⟨rfl,rfl⟩
 clear HP
 go_wp2_with fail
 go_cut [8] (fun o wx=>o = .bool true∧Below w.heap.size w wx)
 case first=>
  go_region_with (go_at_call 81;refine (HOP _ (HCF.out _ (((Below.refl _ _).drew).drew)) HR.out hkc t0 (by omega)).mono ?_;rintro e w2 ⟨rfl,hb3⟩;have hbw:Below w.heap.size w w2:=below_step (((Below.refl _ _).drew).drew) hb3 rfl)
  all_goals go_wp2_with fail
  all_goals go_meet
  all_goals exact ⟨rfl,hbw⟩
 case rest=>
  obtain ⟨rfl,hbc⟩:=hcut
  obtain ⟨wa,hwa⟩:∃ wa,wa=wc:=⟨_,rfl⟩
  subst hwa
  have hx:=HRX.out wa hbc
  clear r0 r1 r6 r7 e7 mr lr lg HOP
  have r4:wa.cell? ⟨X.gs,4,none⟩=some (.slice (some ⟨X.gn,0,none⟩) X.n X.n):=by rw [hx.solo.row.cell];rfl
  have r5:wa.cell? ⟨X.gs,5,none⟩=some (.slice (some ⟨X.gf,0,none⟩) X.n X.n):=by rw [hx.solo.row.cell];rfl
  have r6:wa.cell? ⟨X.gs,6,none⟩=some (.slice (some ⟨X.gb,0,none⟩) X.n X.n):=by rw [hx.solo.row.cell];rfl
  have r7:wa.cell? ⟨X.gs,7,none⟩=some (.slice (some ⟨X.gh,0,none⟩) X.n X.n):=by rw [hx.solo.row.cell];rfl
  have e4:wa.cell? ⟨X.gn,k,none⟩=some (.int .i64 ni):=by rw [← HNI.out];exact row_int hx.solo.nx (by rw [hx.solo.nl];exact hkn)
  have e5:=row_int hx.solo.fx (k:=k) (by rw [hx.solo.fl];exact hkn)
  have e6:=row_int hx.solo.bx (k:=k) (by rw [hx.solo.bl];exact hkn)
  have e7:wa.cell? ⟨X.gh,k,none⟩=some (.int .i64 0):=by rw [← HH0.out];exact row_int hx.solo.hx (by rw [hx.solo.hl];exact hkn)
  have f6:=hx.solo.bx.frozen k
  have hS1:=hx.solo.setB k t
  have hz1:=hx.writes (X':=X) hS1 ((Below.refl base wa).setCell (p:=⟨X.gb,k,none⟩) (by show base≤X.gb;exact hx.solo.bb) _) rfl rfl rfl
  have fvt:¬t<S.free.getD k 0:=HFR.out
  generalize S.free.getD k 0=fv at *
  generalize S.began.getD k 0=bv at *
  have HX:Hid _:=hx
  have HZ1:Hid _:=hz1
  clear hx hS1 hz1
  go_upto_region 7 with fail
  obtain ⟨wd,hwd⟩:∃ wd,wa.setCell ⟨X.gb,k,none⟩ (.int .i64 t)=wd:=⟨_,rfl⟩
  have hy:Ctx w0 wd base X L M { S with began:=S.began.set k t }:=by rw [← hwd];exact HZ1.out
  rw [hwd]
  clear hwd r4 r5 r6 r7 e4 e5 e6 e7 f6 HX HZ1
  obtain ⟨pb,hpa,pc0,pc1,pc2⟩:=HPC.out wd hy.below ni hnl'
  subst hpa
  obtain ⟨op,hop⟩:∃ op,(progF M.toM X.d k).getD ni (0,0,0)=op:=⟨_,rfl⟩
  rw [hop] at pc0 pc1 pc2 HOA
  obtain ⟨okd,oad,ovl⟩:=op
  dsimp only at pc0 pc1 pc2
  have r4:wd.cell? ⟨X.gs,4,none⟩=some (.slice (some ⟨X.gn,0,none⟩) X.n X.n):=by rw [hy.solo.row.cell];rfl
  have e4:wd.cell? ⟨X.gn,k,none⟩=some (.int .i64 ni):=by rw [← HNI.out];exact row_int hy.solo.nx (by rw [hy.solo.nl];exact hkn)
  have lg:=hy.solo.row.lt
  have lpb:pb<wd.heap.size:=cell_lt pc0
  have rB:Row (wd.alloc (.cells #[.int .i64 okd,.int .i64 oad,.int .i64 ovl] 69)) wd.heap.size [.int .i64 okd,.int .i64 oad,.int .i64 ovl] 69:=heap_alloc_new wd _
  have bB:Below wd.heap.size wd (wd.alloc (.cells #[.int .i64 okd,.int .i64 oad,.int .i64 ovl] 69)):=(Below.refl _ _).alloc (Nat.le_refl _) _
  have hyB:=hy.reads bB
  obtain ⟨_,_,_,_,_,_,pl0,pv1,pv2,sh0,sh1⟩:=shape_bounds (chk_zero HOK.out).1
  have pv0:0≤M.c.priv:=by omega
  have HFL:Hid (∀ W:World,Calls Tryz.prog 131 #[cfgV M.c M.s,.agg #[.int .i64 okd,.int .i64 oad,.int .i64 ovl]] W fun e w'=>e = .returned (.int .i64 (faultF M.c (okd,oad,ovl)))∧Below W.heap.size W w'):=fun W=>rfault_any M.c M.s (okd,oad,ovl) W pv0 pv2 sh0 sh1
  have HY:Hid _:=hy
  clear hop hy
  go_upto_region 8 with fail
  obtain ⟨wf,hwf⟩:∃ wf,wd.alloc (.cells #[.int .i64 okd,.int .i64 oad,.int .i64 ovl] 69)=wf:=⟨_,rfl⟩
  rw [hwf] at rB bB hyB
  try rw [hwf]
  have r0:wf.cell? ⟨X.gs,0,none⟩=some (.pointer (some ⟨L.gr,0,none⟩)):=by rw [hyB.solo.row.cell,← hyB.gr];rfl
  have mr:=row_q hyB.ref.row
  have lr:=hyB.ref.row.lt
  have lg':=hyB.solo.row.lt
  have d0:wf.cell? ⟨wd.heap.size,0,none⟩=some (.int .i64 okd):=rB.cell 0
  have d1:wf.cell? ⟨wd.heap.size,1,none⟩=some (.int .i64 oad):=rB.cell 1
  have d2:wf.cell? ⟨wd.heap.size,2,none⟩=some (.int .i64 ovl):=rB.cell 2
  have ld:=rB.lt
  have HRB:Hid (Row wf wd.heap.size [.int .i64 okd,.int .i64 oad,.int .i64 ovl] 69):=rB
  have HYB:Hid _:=hyB
  have HWF:Hid _:=hwf
  clear r4 e4 pc0 pc1 pc2 rB hyB hwf
  go_cut [10] (fun f wx=>f = .int .i64 (faultF M.c (okd,oad,ovl))∧Below wf.heap.size wf wx)
  case first=>
   go_region_with (go_at_call 131;refine (HFL.out _).mono ?_;rintro e w2 ⟨rfl,hb3⟩;have hbw:Below wf.heap.size wf w2:=below_step ((Below.refl _ _).drew) hb3 rfl)
   all_goals go_wp2_with fail
   all_goals go_meet
   all_goals exact ⟨rfl,hbw⟩
  case rest=>
   obtain ⟨rfl,hbg⟩:=hcut
   obtain ⟨wg,hwg⟩:∃ wg,wg=wc:=⟨_,rfl⟩
   subst hwg
   have hz2:=HYB.out.reads hbg
   have rG:Row wg wd.heap.size [.int .i64 okd,.int .i64 oad,.int .i64 ovl] 69:=Row.below HRB.out hbg ld
   clear r0 mr lr lg' d0 d1 d2
   have hf:=HFA.out
   rw [HOA.out] at hf
   rw [hf]
   have fn:=fault_none hf
   have a0:0≤oad:=fn.1
   have a1:oad<M.c.priv+M.c.shared:=fn.2
   obtain ⟨x0,x1⟩:=line_ok HOK.out a0 a1
   have y1:0<M.c.line:=by omega
   have y0:¬M.c.line=0:=by omega
   have r0:wg.cell? ⟨X.gs,0,none⟩=some (.pointer (some ⟨L.gr,0,none⟩)):=by rw [hz2.solo.row.cell,← hz2.gr];rfl
   have rm2:wg.cell? ⟨L.gr,2,none⟩=some (.int .i64 M.c.line):=by rw [hz2.ref.row.cell];rfl
   have d1:wg.cell? ⟨wd.heap.size,1,none⟩=some (.int .i64 oad):=rG.cell 1
   have lgg:=hz2.solo.row.lt
   have lrr:=hz2.ref.row.lt
   have lgd:=rG.lt
   have HZ2:Hid _:=hz2
   have HRG:Hid (Row wg wd.heap.size [.int .i64 okd,.int .i64 oad,.int .i64 ovl] 69):=rG
   have hlm:X.ll≤100000:=by
    have e1:X.ll=S.log.length:=hz2.solo.ll
    have:=HS.out.lb
    omega
   have HLA:Hid (∀ W,Below wg.heap.size wg W→SoR W X M.c M.s L M.T∧LogAt W X.la X.ll S.log):=fun W hW=>⟨(hz2.reads hW).sor,(hz2.reads hW).solo.logAt hlm⟩
   have HLG:Hid (∀ e∈S.log,EntOk e):=HS.out.log
   have LB:Hid (S.log.length≤89000):=by have:=HS.out.lb;unfold Hid;omega
   have EB:Hid (S.evs.length≤89000):=by have:=HS.out.eb;unfold Hid;omega
   have HF0:Hid _:=hf
   clear hz2 rG hf
   go_wp2_with fail
   go_quiet (fail)
   go_wp2_with fail
   refine (rstate_any X M.c M.s L M.T k (oad / M.c.line) t S.log _ (HLA.out _ (Go.below_drewN (Below.refl _ _) _)).1 (HLA.out _ (Go.below_drewN (Below.refl _ _) _)).2 HLG.out x0).mono ?_;rintro e wh ⟨rfl,hbe⟩
   have hbf:Below wg.heap.size wg wh:=(Go.below_drewN (Below.refl _ _) _).trans hbe
   have hz3:=HZ2.out.reads hbf
   have rH:Row wh wd.heap.size [.int .i64 okd,.int .i64 oad,.int .i64 ovl] 69:=Row.below HRG.out hbf lgd
   clear r0 rm2 d1 lgg lrr
   generalize hxx:oad / M.c.line=x at *
   have HX:Hid _:=hxx
   clear hxx
   generalize hss:stateF M.c k x t false S.log=s at *
   have HSS:Hid _:=hss
   clear hss
   have d0:wh.cell? ⟨wd.heap.size,0,none⟩=some (.int .i64 okd):=rH.cell 0
   have d1:wh.cell? ⟨wd.heap.size,1,none⟩=some (.int .i64 oad):=rH.cell 1
   have d2:wh.cell? ⟨wd.heap.size,2,none⟩=some (.int .i64 ovl):=rH.cell 2
   have lgh:=rH.lt
   have HZ3:Hid _:=hz3
   have HRH:Hid (Row wh wd.heap.size [.int .i64 okd,.int .i64 oad,.int .i64 ovl] 69):=rH
   clear hz3 rH
   go_upto_region 13 with fail
   go_cut [170] (fun cb wx=>cb = .bool (decide (s=0∨(okd=1∧s=1)))∧wx=wh)
   case first=>
    by_cases s0:s=0
    ·
     have s0':(s==0)=true:=by simp [s0]
     go_wp2_with fail
     go_meet
     exact ⟨by simp [s0],rfl⟩
    ·
     have s0':(s==0)=false:=by simp [s0]
     by_cases k1:okd=1
     ·
      have k1':(okd==1)=true:=by simp [k1]
      go_wp2_with fail
      go_meet
      exact ⟨by by_cases s1:s=1 <;> simp [s0,k1,s1],rfl⟩
     ·
      have k1':(okd==1)=false:=by simp [k1]
      go_wp2_with fail
      go_meet
      exact ⟨by simp [s0,k1],rfl⟩
   case rest=>
    obtain ⟨rfl,hwx⟩:=hcut
    subst hwx
    obtain ⟨wj,hwj⟩:∃ wj,wj=wc:=⟨_,rfl⟩
    subst hwj
    have a2:=HWT.out
    rw [HOA.out] at a2
    dsimp only at a2
    rw [HX.out,HSS.out] at a2
    have e2:decide (s=0∨(okd=1∧s=1))=true:=by simp [a2]
    rw [e2]
    have HSE:Hid (So.begin M.toM X.d k S t={ S with began:=S.began.set k t,how:=S.how.set k 1,queue:=S.queue++[(k:Int)] }):=by
     unfold Hid So.begin
     rw [HOA.out]
     dsimp only
     rw [if_neg (show ¬faultF M.toM.c (okd,oad,ovl)≠0 from fun hh=>hh HF0.out),show oad / M.toM.c.line=x from HX.out,show stateF M.toM.c k x t false S.log=s from HSS.out,if_pos a2]
    clear a2 e2
    have hz3:=HZ3.out
    have r7:wj.cell? ⟨X.gs,7,none⟩=some (.slice (some ⟨X.gh,0,none⟩) X.n X.n):=by rw [hz3.solo.row.cell];rfl
    have e7:=row_int hz3.solo.hx (k:=k) (by rw [hz3.solo.hl];exact hkn)
    have f7:=hz3.solo.hx.frozen k
    have lgg:=hz3.solo.row.lt
    have hS2:=hz3.solo.setH k 1
    have HF:Hid _:=hz3.writes (X':=X) hS2 ((Below.refl base wj).setCell (p:=⟨X.gh,k,none⟩) (by show base≤X.gh;exact hz3.solo.hb) _) rfl rfl rfl
    clear hz3 hS2
    go_upto_region 15 with fail
    have hy3:Ctx w0 (wj.setCell ⟨X.gh,k,none⟩ (.int .i64 1)) base X L M { S with began:=S.began.set k t,how:=S.how.set k 1 }:=HF.out
    obtain ⟨wi,hwi⟩:∃ wi,wj.setCell ⟨X.gh,k,none⟩ (.int .i64 1)=wi:=⟨_,rfl⟩
    rw [hwi] at hy3
    rw [hwi]
    clear hwi
    have q8:wi.cell? ⟨X.gs,8,none⟩=some (.slice X.qa X.ql X.qc):=by rw [hy3.solo.row.cell];rfl
    have lgi:=hy3.solo.row.lt
    have f8:wi.frozen? ⟨X.gs,8,none⟩=false:=hy3.solo.row.frozen 8
    obtain ⟨q1,q2⟩:=hy3.solo.q
    have hql:X.ql≤3:=by
     have h1:=queue_len HS.out HOK.out hk (fun hm=>by
      obtain ⟨k2,e2,_,h2⟩:=HS.out.qu _ hm
      have e3:k=k2:=by omega
      subst e3
      have:=HH0.out
      omega)
     have h2:X.ql=S.queue.length:=q1
     have h3:=HR.out.c2
     have h4:(S.queue.length:Int)+1≤M.c.cores:=h1
     omega
    have hbA:Below wi.heap.size wi (wi.alloc (.cells #[.int .i64 k] 3)):=(Below.refl _ _).alloc (Nat.le_refl _) _
    have hyA:=hy3.reads hbA
    have HYA:Hid _:=hyA
    clear r7 e7 f7 HF d0 d1 d2 lgh lgd lgg
    have q8':wi.cell? ⟨X.gs,8,none⟩=some (.slice X.qa X.ql X.qc):=q8
    clear hy3 q1 q2 hbA hyA
    go_wp2_with (at_builtin;refine wpList_push _ base X { S with began:=S.began.set k t,how:=S.how.set k 1 } k ?q1 hql rfl _ _ rfl rfl ⟨wi.heap.size,0,none⟩ ?q9 ?q3 ?q4)
    case q1=>exact HYA.out.solo
    try case q9=>rfl
    try case q3=>exact World.news_of_block (cs:=#[.int .i64 k]) (t:=3) (fr:=(0,0)) (heap_alloc_new wi _)
    case q4=>
     intro qa qc w' c8 f8 hS9 hB9
     clear q8 q8'
     go_wp2
     refine bodyPost_ret (results_none rfl _ _ _) rfl ?_
     refine ⟨rfl,_,?_,?_,by rw [HSE.out];exact HYA.out.writes hS9 hB9 rfl rfl rfl⟩ <;> rfl
end Go.Proofs.YtehheaedbnfidaaGreat
