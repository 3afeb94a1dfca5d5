import Derived.Test.YtehheaedbnfidaaGreatClRefSC
import Derived.Test.YtehheaedbnfidaaGreatClWRefQ
set_option maxRecDepth 100000
namespace Go.Proofs.YtehheaedbnfidaaGreat
open Go.RowKit
set_option maxHeartbeats 12800000 in
theorem rworks_fault (w0:World)(base B:Nat)(X:SLoc)(L:RLoc)(M:RDat)(S:So)(k:Nat)(t:Int)(w:World)(h:Ctx w0 w base X L M S)(hs:SoOk M.toM X.d S B)(_hB:B≤89000)(hk:k<M.c.cores.toNat)(t0:0≤t)(t1:t≤10000)
  (h0:S.how.getD k 0=0) (hfr:¬t<S.free.getD k 0) (hnl:S.next.getD k 0<(progF M.toM X.d k).length) (hop:openB M.c k X.d t=true) (hfa:faultF M.c (opAt M.toM X.d k S)≠0) :
  Calls Tryz.prog 95 #[.pointer (some ⟨X.gs,0,none⟩),.int .i64 k,.int .i64 t] w fun e w'=>e = .returned (.tuple #[])∧∃ X',X'.gs=X.gs∧X'.d=X.d∧Ctx w0 w' base X' L M (So.begin M.toM X.d k S t):=by
 have R:=right_of h.ok
 have hkc:(k:Int)<M.c.cores:=by have:=R.c1;omega
 obtain ⟨pa,hpl,hp64,hpc⟩:=h.prog hk
 have HP:=rprogD_any X L M k (.slice pa (progF M.toM X.d k).length (progF M.toM X.d k).length) w h.solo.row h.ref h.gr h.d hkc hpl
 have hz:=h.reads (w':=w.drew) ((Below.refl _ _).drew)
 have hkn:k<X.n:=by rw [h.n];exact hk
 have n3:X.n≤3:=by rw [h.n];have:=R.c2;omega
 have hn0:=hs.nx k hk
 have hf0:=hs.fr k hk
 obtain ⟨ni,hni⟩:=Int.eq_ofNat_of_zero_le hn0.1
 have hnl':ni<(progF M.toM X.d k).length:=by omega
 have HNI:Hid (S.next.getD k 0=(ni:Int)):=hni
 have HOA:Hid (opAt M.toM X.d k S=(progF M.toM X.d k).getD ni (0,0,0)):=by unfold Hid opAt;rw [hni,Int.toNat_natCast]
 have r0:w.drew.cell? ⟨X.gs,0,none⟩=some (.pointer (some ⟨L.gr,0,none⟩)):=by rw [hz.solo.row.cell,← h.gr];rfl
 have r1:w.drew.cell? ⟨X.gs,1,none⟩=some (.int .i64 X.d):=by rw [hz.solo.row.cell];rfl
 have r6:w.drew.cell? ⟨X.gs,6,none⟩=some (.slice (some ⟨X.gb,0,none⟩) X.n X.n):=by rw [hz.solo.row.cell];rfl
 have r7:w.drew.cell? ⟨X.gs,7,none⟩=some (.slice (some ⟨X.gh,0,none⟩) X.n X.n):=by rw [hz.solo.row.cell];rfl
 have e7:w.drew.cell? ⟨X.gh,k,none⟩=some (.int .i64 0):=by rw [← h0];exact row_int hz.solo.hx (by rw [hz.solo.hl];exact hkn)
 have mr:=row_q hz.ref.row
 have lr:=hz.ref.row.lt
 have lg:=hz.solo.row.lt
 have HOP:=ropen_any M.c M.s k X.d t
 rw [hop] at HOP
 have HCF:Hid (∀ W,Below w.heap.size w W→CfgAt W M.c M.s):=fun W hW=>(h.reads hW).cfg
 have HRX:Hid (∀ W,Below w.heap.size w W→Ctx w0 W base X L M S):=fun W hW=>h.reads hW
 have HPC:Hid _:=hpc
 have HR:Hid _:=R
 have HS:Hid _:=hs
 have HH0:Hid _:=h0
 have HFR:Hid _:=hfr
 have HOK:Hid _:=h.ok
 have HN:Hid _:=h.n
 have fv0:S.free.getD k 0≤t:=by omega
 have HFV:Hid _:=fv0
 obtain ⟨pl,hplen⟩:∃ pl,(progF M.toM X.d k).length=pl:=⟨_,rfl⟩
 rw [hplen] at HP hp64 hnl hnl' HPC
 have HPLN:Hid _:=hplen
 have hni0:(0:Int)≤(ni:Int):=by omega
 have hni1:(ni:Int)<(pl:Int):=by omega
 clear h hs hz hpl hpc R hni hop hnl hn0 h0 hfr fv0 hplen
 have HFA:Hid _:=hfa
 clear hfa
 go_enter Tryz.func95,Tryz.ntmps95
 go_wp2_with fail
 refine HP.mono ?_;rintro e w1 ⟨rfl,rfl⟩
 clear HP
 go_wp2_with fail
 go_cut [8] (fun o wx=>o = .bool true∧Below w.heap.size w wx)
 case first=>
  go_region_with (go_at_call 81;refine (HOP _ (HCF.out _ (((Below.refl _ _).drew).drew)) HR.out hkc t0 (by omega)).mono ?_;rintro e w2 ⟨rfl,hb3⟩;have hbw:Below w.heap.size w w2:=below_step (((Below.refl _ _).drew).drew) hb3 rfl)
  all_goals go_wp2_with fail
  all_goals go_meet
  all_goals exact ⟨rfl,hbw⟩
 case rest=>
  obtain ⟨rfl,hbc⟩:=hcut
  obtain ⟨wa,hwa⟩:∃ wa,wa=wc:=⟨_,rfl⟩
  subst hwa
  have hx:=HRX.out wa hbc
  clear r0 r1 r6 r7 e7 mr lr lg HOP
  have r4:wa.cell? ⟨X.gs,4,none⟩=some (.slice (some ⟨X.gn,0,none⟩) X.n X.n):=by rw [hx.solo.row.cell];rfl
  have r5:wa.cell? ⟨X.gs,5,none⟩=some (.slice (some ⟨X.gf,0,none⟩) X.n X.n):=by rw [hx.solo.row.cell];rfl
  have r6:wa.cell? ⟨X.gs,6,none⟩=some (.slice (some ⟨X.gb,0,none⟩) X.n X.n):=by rw [hx.solo.row.cell];rfl
  have r7:wa.cell? ⟨X.gs,7,none⟩=some (.slice (some ⟨X.gh,0,none⟩) X.n X.n):=by rw [hx.solo.row.cell];rfl
  have e4:wa.cell? ⟨X.gn,k,none⟩=some (.int .i64 ni):=by rw [← HNI.out];exact row_int hx.solo.nx (by rw [hx.solo.nl];exact hkn)
  have e5:=row_int hx.solo.fx (k:=k) (by rw [hx.solo.fl];exact hkn)
  have e6:=row_int hx.solo.bx (k:=k) (by rw [hx.solo.bl];exact hkn)
  have e7:wa.cell? ⟨X.gh,k,none⟩=some (.int .i64 0):=by rw [← HH0.out];exact row_int hx.solo.hx (by rw [hx.solo.hl];exact hkn)
  have f6:=hx.solo.bx.frozen k
  have hS1:=hx.solo.setB k t
  have hz1:=hx.writes (X':=X) hS1 ((Below.refl base wa).setCell (p:=⟨X.gb,k,none⟩) (by show base≤X.gb;exact hx.solo.bb) _) rfl rfl rfl
  have fvt:¬t<S.free.getD k 0:=HFR.out
  generalize S.free.getD k 0=fv at *
  generalize S.began.getD k 0=bv at *
  have HX:Hid _:=hx
  have HZ1:Hid _:=hz1
  clear hx hS1 hz1
  go_upto_region 6 with fail
  go_cut [] (fun wx=>Ctx w0 wx base X L M { S with began:=S.began.set k t })
  case first=>
   go_wp2_with fail
   go_meet
   exact HZ1.out
  case rest=>
   have hy:=hcut
   obtain ⟨wd,hwd⟩:∃ wd,wd=wc:=⟨_,rfl⟩
   subst hwd
   clear r4 r5 r6 r7 e4 e5 e6 e7 f6 hcut HX HZ1
   obtain ⟨pb,hpa,pc0,pc1,pc2⟩:=HPC.out wd hy.below ni hnl'
   subst hpa
   obtain ⟨op,hop⟩:∃ op,(progF M.toM X.d k).getD ni (0,0,0)=op:=⟨_,rfl⟩
   rw [hop] at pc0 pc1 pc2 HOA
   obtain ⟨okd,oad,ovl⟩:=op
   dsimp only at pc0 pc1 pc2
   have r4:wd.cell? ⟨X.gs,4,none⟩=some (.slice (some ⟨X.gn,0,none⟩) X.n X.n):=by rw [hy.solo.row.cell];rfl
   have e4:wd.cell? ⟨X.gn,k,none⟩=some (.int .i64 ni):=by rw [← HNI.out];exact row_int hy.solo.nx (by rw [hy.solo.nl];exact hkn)
   have lg:=hy.solo.row.lt
   have lpb:pb<wd.heap.size:=cell_lt pc0
   have rB:Row (wd.alloc (.cells #[.int .i64 okd,.int .i64 oad,.int .i64 ovl] 69)) wd.heap.size [.int .i64 okd,.int .i64 oad,.int .i64 ovl] 69:=heap_alloc_new wd _
   have bB:Below wd.heap.size wd (wd.alloc (.cells #[.int .i64 okd,.int .i64 oad,.int .i64 ovl] 69)):=(Below.refl _ _).alloc (Nat.le_refl _) _
   have hyB:=hy.reads bB
   obtain ⟨_,_,_,_,_,_,pl0,pv1,pv2,sh0,sh1⟩:=shape_bounds (chk_zero HOK.out).1
   have pv0:0≤M.c.priv:=by omega
   have HFL:Hid (∀ W:World,Calls Tryz.prog 131 #[cfgV M.c M.s,.agg #[.int .i64 okd,.int .i64 oad,.int .i64 ovl]] W fun e w'=>e = .returned (.int .i64 (faultF M.c (okd,oad,ovl)))∧Below W.heap.size W w'):=fun W=>rfault_any M.c M.s (okd,oad,ovl) W pv0 pv2 sh0 sh1
   have HY:Hid _:=hy
   clear hop hy
   go_upto_region 8 with fail
   obtain ⟨wf,hwf⟩:∃ wf,wd.alloc (.cells #[.int .i64 okd,.int .i64 oad,.int .i64 ovl] 69)=wf:=⟨_,rfl⟩
   rw [hwf] at rB bB hyB
   try rw [hwf]
   have r0:wf.cell? ⟨X.gs,0,none⟩=some (.pointer (some ⟨L.gr,0,none⟩)):=by rw [hyB.solo.row.cell,← hyB.gr];rfl
   have mr:=row_q hyB.ref.row
   have lr:=hyB.ref.row.lt
   have lg':=hyB.solo.row.lt
   have d0:wf.cell? ⟨wd.heap.size,0,none⟩=some (.int .i64 okd):=rB.cell 0
   have d1:wf.cell? ⟨wd.heap.size,1,none⟩=some (.int .i64 oad):=rB.cell 1
   have d2:wf.cell? ⟨wd.heap.size,2,none⟩=some (.int .i64 ovl):=rB.cell 2
   have ld:=rB.lt
   have HRB:Hid (Row wf wd.heap.size [.int .i64 okd,.int .i64 oad,.int .i64 ovl] 69):=rB
   have HYB:Hid _:=hyB
   have HWF:Hid _:=hwf
   clear r4 e4 pc0 pc1 pc2 rB hyB hwf
   go_cut [10] (fun f wx=>f = .int .i64 (faultF M.c (okd,oad,ovl))∧Below wf.heap.size wf wx)
   case first=>
    go_region_with (go_at_call 131;refine (HFL.out _).mono ?_;rintro e w2 ⟨rfl,hb3⟩;have hbw:Below wf.heap.size wf w2:=below_step ((Below.refl _ _).drew) hb3 rfl)
    all_goals go_wp2_with fail
    all_goals go_meet
    all_goals exact ⟨rfl,hbw⟩
   case rest=>
    obtain ⟨rfl,hbg⟩:=hcut
    obtain ⟨wg,hwg⟩:∃ wg,wg=wc:=⟨_,rfl⟩
    subst hwg
    have hz2:=HYB.out.reads hbg
    have rG:Row wg wd.heap.size [.int .i64 okd,.int .i64 oad,.int .i64 ovl] 69:=Row.below HRB.out hbg ld
    clear r0 mr lr lg' d0 d1 d2
    have hf:=HFA.out
    rw [HOA.out] at hf
    have hf:faultF M.c (okd,oad,ovl)≠0:=hf
    have hf':(faultF M.c (okd,oad,ovl) != 0)=true:=bne_iff_ne.2 hf
    have HSE:Hid (So.begin M.toM X.d k S t={ S with began:=S.began.set k t,how:=S.how.set k 2 }):=by
     unfold Hid So.begin
     rw [HOA.out]
     dsimp only
     rw [if_pos (show faultF M.toM.c (okd,oad,ovl)≠0 from hf)]
    have r7:wg.cell? ⟨X.gs,7,none⟩=some (.slice (some ⟨X.gh,0,none⟩) X.n X.n):=by rw [hz2.solo.row.cell];rfl
    have e7:=row_int hz2.solo.hx (k:=k) (by rw [hz2.solo.hl];exact hkn)
    have f7:=hz2.solo.hx.frozen k
    have lgg:=hz2.solo.row.lt
    have hS2:=hz2.solo.setH k 2
    have HF:Hid _:=hz2.writes (X':=X) hS2 ((Below.refl base wg).setCell (p:=⟨X.gh,k,none⟩) (by show base≤X.gh;exact hz2.solo.hb) _) rfl rfl rfl
    generalize faultF M.c (okd,oad,ovl)=fv2 at *
    clear hz2 hS2 hf
    go_wp2_with fail
    refine bodyPost_ret (results_none rfl _ _ _) rfl ⟨rfl,X,rfl,rfl,?_⟩
    rw [HSE.out]
    exact HF.out
end Go.Proofs.YtehheaedbnfidaaGreat
