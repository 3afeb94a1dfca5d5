import Derived.Deep.CutBlock
import Derived.Test.YtehheaedbnfidaaGreatClWOpen
import Derived.Test.YtehheaedbnfidaaGreatClRefSC
set_option maxRecDepth 100000
namespace Go.Proofs.YtehheaedbnfidaaGreat
open Go.RowKit
set_option maxHeartbeats 6400000 in
theorem rsoonest_any (w0:World)(base B:Nat)(X:SLoc)(L:RLoc)(M:RDat)(S:So)(t:Int)(w:World)(h:Ctx w0 w base X L M S)(hs:SoOk M.toM X.d S B)(t0:0≤t)(t1:t≤10001) :
  Calls Tryz.prog 93 #[.pointer (some ⟨X.gs,0,none⟩),.int .i64 t] w fun e w'=>e = .returned (.int .i64 (soonZ M.toM X.d S t))∧Below w.heap.size w w':=by
 have R:=right_of h.ok
 have c0:w.cell? ⟨X.gs,0,none⟩=some (.pointer (some ⟨L.gr,0,none⟩)):=by rw [h.solo.row.cell,← h.gr];rfl
 have c1:w.cell? ⟨X.gs,1,none⟩=some (.int .i64 X.d):=by rw [h.solo.row.cell];rfl
 have c8:w.cell? ⟨X.gs,8,none⟩=some (.slice X.qa X.ql X.qc):=by rw [h.solo.row.cell];rfl
 have mr:=row_q h.ref.row
 have HQL:Hid (X.ql=S.queue.length):=h.solo.q.1
 have HW:=rwait_any M.c M.s X.d t
 have HR:Hid _:=R
 have HC:Hid _:=h.cfg
 obtain ⟨n,hn⟩:=Int.eq_ofNat_of_zero_le (show 0≤M.c.cores by have:=R.c1;omega)
 have hn':M.c.cores.toNat=n:=by omega
 have HN:Hid _:=hn
 have n3:n≤3:=by have:=R.c2;omega
 clear R hn
 go_enter Tryz.func93,Tryz.ntmps93
 go_upto_if 13 with fail
 go_cut [5] (fun u wx=>u = .int .i64 (if S.queue=[] then neverZ else waitZ M.c X.d t)∧Below w.heap.size w wx)
 case first=>
  by_cases hq:S.queue=[]
  ·
   have q0:X.ql=0:=by rw [HQL.out,hq];rfl
   have q0':¬(0:Int)<(X.ql:Int):=by omega
   have HQ:Hid _:=hq
   clear hq q0
   go_wp2_with fail
   go_meet
   exact ⟨by rw [if_pos HQ.out];rfl,Below.refl _ _⟩
  ·
   have q0:0<X.ql:=by
    rw [HQL.out]
    cases hq2:S.queue with
    | nil=>exact absurd hq2 hq
    | cons a b=>simp
   have q0':(0:Int)<(X.ql:Int):=by omega
   have HQ:Hid _:=hq
   clear hq q0
   go_wp2_with fail
   go_region_with (go_at_call 83;refine (HW _ HC.out.drew HR.out t0 (by omega)).mono ?_;rintro e w1 ⟨rfl,hb1⟩;have hb2:=below_step ((Below.refl w.heap.size w).drew) hb1 rfl)
   all_goals go_wp2_with fail
   all_goals go_meet
   all_goals exact ⟨by rw [if_neg HQ.out],hb2⟩
 case rest=>
  obtain ⟨rfl,hbc⟩:=hcut
  have HS0:Hid (soonZ M.toM X.d S t=soonF M.toM X.d S t n 0 (if S.queue=[] then neverZ else waitZ M.c X.d t)):=by unfold Hid soonZ;show soonF M.toM X.d S t M.c.cores.toNat 0 _=_;rw [hn'];rfl
  generalize (if S.queue=[] then neverZ else waitZ M.c X.d t)=u0 at *
  have hxn:X.n=n:=by rw [h.n,hn']
  have hwc:Ctx w0 wc base X L M S:=h.reads hbc
  have cc0:wc.cell? ⟨X.gs,0,none⟩=some (.pointer (some ⟨L.gr,0,none⟩)):=by rw [hwc.solo.row.cell,← h.gr];rfl
  have cm0:wc.cell? ⟨L.gr,0,none⟩=some (.int .i64 n):=by rw [hwc.ref.row.cell,← HN.out];rfl
  clear c0 c1 c8 mr HW
  go_wp2_with fail
  go_loopw [5,6] (fun u k wr=>∃ (j:Nat) (x:Int),j≤n∧k = .int .i64 j∧u = .int .i64 x∧soonZ M.toM X.d S t=soonF M.toM X.d S t (n-j) j x∧Below w.heap.size w wr) (fun _ k _=>(n-intOf k).toNat)
  case atStart=>exact ⟨0,u0,by omega,rfl,rfl,HS0.out,hbc⟩
  case round=>
   obtain ⟨j,x,hj,rfl,rfl,hf,hb⟩:=hrel
   have HF:Hid _:=hf
   have hx:Ctx w0 wr base X L M S:=h.reads hb
   have r0:wr.cell? ⟨X.gs,0,none⟩=some (.pointer (some ⟨L.gr,0,none⟩)):=by rw [hx.solo.row.cell,← h.gr];rfl
   have rm0:wr.cell? ⟨L.gr,0,none⟩=some (.int .i64 n):=by rw [hx.ref.row.cell,← HN.out];rfl
   clear hf cc0 cm0
   by_cases hlt:(j:Int)<(n:Int)
   ·
    have hjn:j<M.c.cores.toNat:=by omega
    obtain ⟨pa,hpl,hp64,hpc⟩:=hx.prog hjn
    have HP:=rprogQ_any X L M j (.slice pa (progF M.toM X.d j).length (progF M.toM X.d j).length)
    have HU:Hid (soonF M.toM X.d S t (n-j) j x=soonF M.toM X.d S t (n-(j+1)) (j+1) (if coreF M.toM X.d j S t<x then coreF M.toM X.d j S t else x)):=by
     unfold Hid
     rw [show n-j=(n-(j+1))+1 by omega,soonF]
    have r4:wr.cell? ⟨X.gs,4,none⟩=some (.slice (some ⟨X.gn,0,none⟩) n n):=by rw [hx.solo.row.cell,← hxn];rfl
    have r5:wr.cell? ⟨X.gs,5,none⟩=some (.slice (some ⟨X.gf,0,none⟩) n n):=by rw [hx.solo.row.cell,← hxn];rfl
    have r6:wr.cell? ⟨X.gs,6,none⟩=some (.slice (some ⟨X.gb,0,none⟩) n n):=by rw [hx.solo.row.cell,← hxn];rfl
    have r7:wr.cell? ⟨X.gs,7,none⟩=some (.slice (some ⟨X.gh,0,none⟩) n n):=by rw [hx.solo.row.cell,← hxn];rfl
    have e4:wr.cell? ⟨X.gn,j,none⟩=some (.int .i64 (S.next.getD j 0)):=row_int hx.solo.nx (by rw [hx.solo.nl,hxn];omega)
    have e5:wr.cell? ⟨X.gf,j,none⟩=some (.int .i64 (S.free.getD j 0)):=row_int hx.solo.fx (by rw [hx.solo.fl,hxn];omega)
    have e6:wr.cell? ⟨X.gb,j,none⟩=some (.int .i64 (S.began.getD j 0)):=row_int hx.solo.bx (by rw [hx.solo.bl,hxn];omega)
    have e7:wr.cell? ⟨X.gh,j,none⟩=some (.int .i64 (S.how.getD j 0)):=row_int hx.solo.hx (by rw [hx.solo.hl,hxn];omega)
    have HCF:Hid (coreF M.toM X.d j S t=if S.how.getD j 0=2 then S.began.getD j 0+2 else if S.how.getD j 0=0∧S.next.getD j 0<(progF M.toM X.d j).length then (if t<S.free.getD j 0 then opensZ M.c j X.d (S.free.getD j 0) else opensZ M.c j X.d t) else neverZ):=rfl
    have HOP:=ropens_any w0 base X L M S j
    obtain ⟨bg0,bg1⟩:=hs.bg j (by show j<M.c.cores.toNat;omega)
    obtain ⟨fr0,fr1⟩:=hs.fr j (by show j<M.c.cores.toNat;omega)
    generalize S.next.getD j 0=nk at *
    obtain ⟨fk,hfk⟩:∃ a,S.free.getD j 0=a:=⟨_,rfl⟩
    rw [hfk] at e5 fr0 fr1 HCF
    have HFK:Hid (fk=S.free.getD j 0):=hfk.symm
    clear hfk
    generalize S.began.getD j 0=bk at *
    generalize S.how.getD j 0=hk at *
    generalize (progF M.toM X.d j).length=pl at *
    generalize coreF M.toM X.d j S t=cv at *
    have HJ:Hid ((j:Int)<M.c.cores):=by unfold Hid;rw [HN.out];exact hlt
    go_upto_block 2 with fail
    go_cut [7] (fun v wx=>v = .int .i64 cv∧Below w.heap.size w wx)
    case first=>
     by_cases a1:hk=2
     ·
      subst a1
      have HV:Hid (cv=bk+2):=by unfold Hid;rw [HCF.out,if_pos rfl]
      go_wp2_with fail
      go_meet
      exact ⟨by rw [HV.out,show bk+3-1=bk+2 by omega],hb⟩
     have a1':(hk==2)=false:=by simpa using a1
     by_cases a2:hk=0
     ·
      subst a2
      clear a1
      by_cases a3:nk<(pl:Int)
      ·
       have HV:Hid (cv=if t<fk then opensZ M.c j X.d fk else opensZ M.c j X.d t):=by unfold Hid;rw [HCF.out,if_neg (by omega),if_pos ⟨rfl,a3⟩]
       go_wp2_with fail
       go_quiet ((go_at_call 124;exact Calls.quiet_of (HP _ (by exact hx.solo.row) (hx.ref.below (Go.below_drewN (Below.refl _ _) _) (Nat.le_refl _)) h.gr h.d HJ.out hpl)))
       have hx1:Ctx w0 (wr.drewN nq) base X L M S:=hx.reads (Go.below_drewN (Below.refl _ _) _)
       have hb1:Below w.heap.size w (wr.drewN nq):=Go.below_drewN hb _
       by_cases a4:t<fk
       ·
        have HV2:Hid (cv=opensZ M.c j X.d fk):=by unfold Hid;rw [HV.out,if_pos a4]
        go_wp2_with fail
        refine (HOP t _ hx1 hjn t0 (by omega)).mono ?_;rintro e w2 ⟨rfl,hb2⟩
        have hb3:=below_step hb1 hb2 rfl
        have hx2:=h.reads hb3
        have s5:w2.cell? ⟨X.gs,5,none⟩=some (.slice (some ⟨X.gf,0,none⟩) n n):=by rw [hx2.solo.row.cell,← hxn];rfl
        have f5:w2.cell? ⟨X.gf,j,none⟩=some (.int .i64 fk):=by rw [HFK.out];exact row_int hx2.solo.fx (by rw [hx2.solo.fl,hxn];omega)
        go_wp2_with fail
        refine (HOP fk _ hx2 hjn fr0 (by omega)).mono ?_;rintro e w3 ⟨rfl,hb4⟩
        go_wp2_with fail
        go_meet
        exact ⟨by rw [HV2.out],below_step hb3 hb4 rfl⟩
       ·
        have HV2:Hid (cv=opensZ M.c j X.d t):=by unfold Hid;rw [HV.out,if_neg a4]
        go_wp2_with fail
        refine (HOP t _ hx1 hjn t0 (by omega)).mono ?_;rintro e w2 ⟨rfl,hb2⟩
        have hb3:=below_step hb1 hb2 rfl
        have hx2:=h.reads hb3
        have s5:w2.cell? ⟨X.gs,5,none⟩=some (.slice (some ⟨X.gf,0,none⟩) n n):=by rw [hx2.solo.row.cell,← hxn];rfl
        have f5:w2.cell? ⟨X.gf,j,none⟩=some (.int .i64 fk):=by rw [HFK.out];exact row_int hx2.solo.fx (by rw [hx2.solo.fl,hxn];omega)
        go_wp2_with fail
        go_meet
        exact ⟨by rw [HV2.out],hb3⟩
      ·
       have HV:Hid (cv=neverZ):=by unfold Hid;rw [HCF.out,if_neg (by omega),if_neg (by omega)]
       go_wp2_with fail
       go_quiet ((go_at_call 124;exact Calls.quiet_of (HP _ (by exact hx.solo.row) (hx.ref.below (Go.below_drewN (Below.refl _ _) _) (Nat.le_refl _)) h.gr h.d HJ.out hpl)))
       go_wp2_with fail
       go_meet
       exact ⟨by rw [HV.out];rfl,Go.below_drewN hb _⟩
     ·
      have a2':(hk==0)=false:=by simpa using a2
      have HV:Hid (cv=neverZ):=by unfold Hid;rw [HCF.out,if_neg a1,if_neg (by omega)]
      clear a1 a2
      go_wp2_with fail
      go_quiet (fail)
      go_wp2_with fail
      go_meet
      exact ⟨by rw [HV.out];rfl,Go.below_drewN hb _⟩
    case rest=>
     obtain ⟨rfl,hbd⟩:=hcut
     clear r0 rm0 r4 r5 r6 r7 e4 e5 e6 e7
     by_cases a5:cv<x
     ·
      go_wp2_with fail
      go_roundw
      case rel=>first | exact ⟨j+1,cv,by omega,by go_num,rfl,by rw [HF.out,HU.out,if_pos a5],hbd⟩ | ((repeat apply Exists.intro);exact ⟨⟨j+1,cv,by omega,by go_num,rfl,by rw [HF.out,HU.out,if_pos a5],hbd⟩,rfl⟩)
      case measure=>simp [intOf];omega
     ·
      go_wp2_with fail
      go_roundw
      case rel=>first | exact ⟨j+1,x,by omega,by go_num,rfl,by rw [HF.out,HU.out,if_neg (by omega)],hbd⟩ | ((repeat apply Exists.intro);exact ⟨⟨j+1,x,by omega,by go_num,rfl,by rw [HF.out,HU.out,if_neg (by omega)],hbd⟩,rfl⟩)
      case measure=>simp [intOf];omega
   ·
    have ej:j=n:=by omega
    subst ej
    go_wp2
    go_ret
    exact ⟨ret_int (by rw [HF.out,Nat.sub_self];rfl),hb⟩
set_option maxHeartbeats 6400000 in
theorem rworks_fail (w0:World)(base B:Nat)(X:SLoc)(L:RLoc)(M:RDat)(S:So)(k:Nat)(t:Int)(w:World)(h:Ctx w0 w base X L M S)(hs:SoOk M.toM X.d S B)(hB:B≤89000)(hk:k<M.c.cores.toNat)(t0:0≤t)(t1:t≤10000)
  (h2:S.how.getD k 0=2) (ht:t=S.began.getD k 0+2) :
  Calls Tryz.prog 95 #[.pointer (some ⟨X.gs,0,none⟩),.int .i64 k,.int .i64 t] w fun e w'=>e = .returned (.tuple #[])∧∃ X',X'.gs=X.gs∧X'.d=X.d∧Ctx w0 w' base X' L M (S.done k t 0 (faultF M.c (opAt M.toM X.d k S))):=by
 have R:=right_of h.ok
 have hkc:(k:Int)<M.c.cores:=by have:=R.c1;omega
 obtain ⟨pa,hpl,hp64,hpc⟩:=h.prog hk
 have HP:=rprogD_any X L M k (.slice pa (progF M.toM X.d k).length (progF M.toM X.d k).length) w h.solo.row h.ref h.gr h.d hkc hpl
 have hz:=h.reads (w':=w.drew) ((Below.refl _ _).drew)
 have hkn:k<X.n:=by rw [h.n];exact hk
 have n3:X.n≤3:=by rw [h.n];have:=R.c2;omega
 have hn0:=hs.nx k hk
 have hw0:=hs.hw k hk
 have hnl:S.next.getD k 0<(progF M.toM X.d k).length:=by rcases hw0 with e | e <;> omega
 have hb0:=hs.bg k hk
 obtain ⟨ni,hni⟩:=Int.eq_ofNat_of_zero_le hn0.1
 have hnl':ni<(progF M.toM X.d k).length:=by omega
 have HNI:Hid (S.next.getD k 0=(ni:Int)):=hni
 have HOA:Hid (opAt M.toM X.d k S=(progF M.toM X.d k).getD ni (0,0,0)):=by unfold Hid opAt;rw [hni,Int.toNat_natCast]
 obtain ⟨pb,hpa,pc0,pc1,pc2⟩:=hpc w.drew hz.below ni hnl'
 have r0:w.drew.cell? ⟨X.gs,0,none⟩=some (.pointer (some ⟨L.gr,0,none⟩)):=by rw [hz.solo.row.cell,← h.gr];rfl
 have r4:w.drew.cell? ⟨X.gs,4,none⟩=some (.slice (some ⟨X.gn,0,none⟩) X.n X.n):=by rw [hz.solo.row.cell];rfl
 have r6:w.drew.cell? ⟨X.gs,6,none⟩=some (.slice (some ⟨X.gb,0,none⟩) X.n X.n):=by rw [hz.solo.row.cell];rfl
 have r7:w.drew.cell? ⟨X.gs,7,none⟩=some (.slice (some ⟨X.gh,0,none⟩) X.n X.n):=by rw [hz.solo.row.cell];rfl
 have e4:w.drew.cell? ⟨X.gn,k,none⟩=some (.int .i64 ni):=by rw [← hni];exact row_int hz.solo.nx (by rw [hz.solo.nl];exact hkn)
 have e6:=row_int hz.solo.bx (k:=k) (by rw [hz.solo.bl];exact hkn)
 have e7:w.drew.cell? ⟨X.gh,k,none⟩=some (.int .i64 2):=by rw [← h2];exact row_int hz.solo.hx (by rw [hz.solo.hl];exact hkn)
 have mr:=row_q hz.ref.row
 have lr:=hz.ref.row.lt
 have lg:=hz.solo.row.lt
 have lpb:pb<w.heap.size:=cell_lt pc0
 obtain ⟨_,_,_,_,_,_,pl0,pv1,pv2,sh0,sh1⟩:=shape_bounds (chk_zero h.ok).1
 have pv0:0≤M.c.priv:=by omega
 clear pl0
 have HFA:=fun (o:OpT) (W:World)=>rfault_any M.c M.s o W pv0 pv2 sh0 sh1
 have HFL:Hid _:=HFA
 have HRX:Hid (∀ W,Below w.heap.size w W→Ctx w0 W base X L M S):=fun W hW=>h.reads hW
 have EB:Hid (S.evs.length≤89000):=by have:=hs.eb;unfold Hid;omega
 have HNX:Hid (0≤S.next.getD k 0∧S.next.getD k 0≤64):=⟨hn0.1,by omega⟩
 subst hpa
 generalize hop:(progF M.toM X.d k).getD ni (0,0,0)=op at *
 obtain ⟨okd,oad,ovl⟩:=op
 dsimp only at pc0 pc1 pc2
 have HFS:Hid (faultF M.c (opAt M.toM X.d k S)=faultF M.c (okd,oad,ovl)):=by unfold Hid;rw [HOA.out]
 generalize S.began.getD k 0=bv at *
 generalize (progF M.toM X.d k).length=pl at *
 have hb1:IntKind.i64.wrap (bv+3)=bv+3:=by rw [IntKind.wrap_i64];omega
 have hb2:IntKind.i64.wrap (bv+3-1)=bv+2:=by rw [IntKind.wrap_i64];omega
 have hni0:(0:Int)≤(ni:Int):=by omega
 have hni1:(ni:Int)<(pl:Int):=by omega
 subst ht
 clear h hs hz hpl hpc R hni hop hnl hn0 hw0 HFA h2
 go_enter Tryz.func95,Tryz.ntmps95
 go_wp2_with fail
 refine HP.mono ?_;rintro e w1 ⟨rfl,rfl⟩
 clear HP
 go_wp2_with fail
 go_region_with (go_at_call 131;refine (HFL.out (okd,oad,ovl) _).mono ?_;rintro e w2 ⟨rfl,hb3⟩)
 all_goals
  have hbw:Below w.heap.size w w2:=below_step (((Below.refl _ _).drew).drew) hb3 rfl
  have hx2:=HRX.out w2 hbw
  have HX2:Hid _:=hx2
  clear r0 r4 r6 r7 e4 e6 e7 mr hb3 hbw pc0 pc1 pc2 hx2
  go_wp2_with fail
  refine (rdone_any base X S k (bv+2) 0 (faultF M.c (okd,oad,ovl)) _ HX2.out.solo hkn n3 (by have:=EB.out;omega) HNX.out.1 (by have:=HNX.out.2;omega) t0 (by omega)).mono ?_;rintro e w3 ⟨rfl,ea1,ec1,hS4,hB4,hK4⟩
  have HF:Hid _:=HX2.out.writes hS4 hB4 rfl rfl rfl
  clear hS4 hB4 hK4
  go_wp2_with fail
  refine bodyPost_ret (results_none rfl _ _ _) rfl ⟨rfl,_,?_,?_,by rw [HFS.out];exact HF.out⟩ <;> rfl
end Go.Proofs.YtehheaedbnfidaaGreat
