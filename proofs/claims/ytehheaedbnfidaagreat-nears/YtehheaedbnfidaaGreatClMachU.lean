import Derived.Test.YtehheaedbnfidaaGreatClWMachI
set_option maxRecDepth 100000
namespace Go.Proofs.YtehheaedbnfidaaGreat
open Go.RowKit
set_option maxHeartbeats 1600000 in
theorem kopsRight_any (sa:Option Addr)(len cap:Nat)(os:List OpT)(w:World)(h:OpsAt w sa len cap os) :
  Calls Tryz.prog 132 #[.slice sa len cap] w fun e w'=>e = .returned (.bool (opsOk os))∧w'=w:=by
 have hl:=h.hlen
 have hm:=h.hmax
 have hle:=h.hle
 unfold maxLen at hm
 by_cases a1:64<len
 ·
  have HR:Hid (opsOk os=false):=by unfold Hid opsOk;simp;omega
  clear h
  go_enter Tryz.func132,Tryz.ntmps132
  go_wp2
  go_ret
  exact ⟨ret_bool HR.out.symm,rfl⟩
 ·
  have HR:Hid (opsOk os=os.all kindB):=by unfold Hid opsOk;rw [decide_eq_true (by omega)];rfl
  have HL:Hid _:=hl
  clear hl
  go_enter Tryz.func132,Tryz.ntmps132
  go_wp2_with fail
  go_loop [3] (fun u=>∃ i:Nat,i≤len∧u = .int .i64 i∧(os.take i).all kindB=true) (fun u=>len-(intOf u).toNat)
  case atStart=>exact ⟨0,by omega,rfl,by simp⟩
  case round=>
   obtain ⟨i,hi,rfl,hall⟩:=hrel
   have HA:Hid _:=hall
   clear hall
   by_cases hlt:i<len
   ·
    obtain ⟨b,off,rfl,e1,_,_⟩:=h.hat i hlt
    have HS:Hid _:=all_take (os:=os) (i:=i) (by rw [HL.out];exact hlt)
    have HF:Hid (kindB (os.getD i opZ)=((os.getD i opZ).1==0 || (os.getD i opZ).1==1)):=rfl
    have HN:Hid (kindB (os.getD i opZ)=false→os.all kindB=false):=fun hf=>by
     have hm:os.getD i opZ∈os:=by rw [List.getD_eq_getElem?_getD,List.getElem?_eq_getElem (by rw [HL.out];exact hlt)];exact List.getElem_mem _
     rw [List.all_eq_false]
     exact ⟨_,hm,by rw [hf];simp⟩
    generalize (os.getD i opZ).1=kd at *
    by_cases b1:kd=0
    ·
     have b1b:(kd==0)=true:=by simp [b1]
     have HK:Hid (kindB (os.getD i opZ)=true):=by unfold Hid;rw [HF.out,b1b];rfl
     subst b1
     clear b1b
     go_wp2
     go_round
     case rel=>exact ⟨i+1,by omega,by go_num,by rw [HS.out,HA.out,HK.out];rfl⟩
     case measure=>simp [intOf];omega
    ·
     have b1b:(kd==0)=false:=by simp [b1]
     by_cases b2:kd=1
     ·
      have b2b:(kd==1)=true:=by simp [b2]
      have HK:Hid (kindB (os.getD i opZ)=true):=by unfold Hid;rw [HF.out,b1b,b2b];rfl
      subst b2
      clear b1 b1b b2b
      go_wp2
      go_round
      case rel=>exact ⟨i+1,by omega,by go_num,by rw [HS.out,HA.out,HK.out];rfl⟩
      case measure=>simp [intOf];omega
     ·
      have b2b:(kd==1)=false:=by simp [b2]
      have HK:Hid (os.all kindB=false):=HN.out (by rw [HF.out,b1b,b2b];rfl)
      have b1c:(kd != 0)=true:=by simp [b1]
      have b2c:(kd != 1)=true:=by simp [b2]
      go_wp2
      go_ret
      exact ⟨ret_bool (by rw [HR.out,HK.out]),rfl⟩
   ·
    have HK:Hid (os.all kindB=true):=by have:=HA.out;rw [List.take_of_length_le (by rw [HL.out];omega)] at this;exact this
    go_wp2
    go_ret
    exact ⟨ret_bool (by rw [HR.out,HK.out]),rfl⟩
def giveME (N:Cn)(m:Mh)(d k:Int)(os:List OpT):Int:=if d<0∨N.c.domains≤d∨k<0∨N.c.cores≤k then 6 else if 0<m.now then 7 else if opsOk os=true then 0 else 8
def giveMM (N:Cn)(m:Mh)(d k:Int)(os:List OpT):Mh:=if giveME N m d k os=0 then { m with ops:=up2 m.ops d.toNat k.toNat os,dn:=up2 m.dn d.toNat k.toNat 0 } else m
def XLoc.gives (X:XLoc)(d k gg:Nat):XLoc:={ X with oa:=up2 X.oa d k (some ⟨gg,0,none⟩),lab:=fun b=>if b=gg then some (9,0) else X.lab b }
theorem MachM.setOps {w:World}{N:Cn}{X:XLoc}{m:Mh}{d k:Nat}(h:MachM w N X m)(hd:d<N.nd)(os:List OpT) :
  MachM (((w.setCell ⟨X.P d,k*2,none⟩ (.slice (some ⟨w.heap.size,0,none⟩) os.length os.length)).setCell ⟨X.P d,k*2+1,none⟩ (.int .i64 0)).alloc (.cells (os.flatMap opL).toArray 69)) N (X.gives d k w.heap.size) { m with ops:=up2 m.ops d k os,dn:=up2 m.dn d k 0 }
  ∧Goes w (((w.setCell ⟨X.P d,k*2,none⟩ (.slice (some ⟨w.heap.size,0,none⟩) os.length os.length)).setCell ⟨X.P d,k*2+1,none⟩ (.int .i64 0)).alloc (.cells (os.flatMap opL).toArray 69)) X (X.gives d k w.heap.size):=by
 have hz1:((w.setCell ⟨X.P d,k*2,none⟩ (.slice (some ⟨w.heap.size,0,none⟩) os.length os.length)).setCell ⟨X.P d,k*2+1,none⟩ (.int .i64 0)).heap.size=w.heap.size:=by simp [World.setCell]
 have hb:Below w.heap.size ((w.setCell ⟨X.P d,k*2,none⟩ (.slice (some ⟨w.heap.size,0,none⟩) os.length os.length)).setCell ⟨X.P d,k*2+1,none⟩ (.int .i64 0)) (((w.setCell ⟨X.P d,k*2,none⟩ (.slice (some ⟨w.heap.size,0,none⟩) os.length os.length)).setCell ⟨X.P d,k*2+1,none⟩ (.int .i64 0)).alloc (.cells (os.flatMap opL).toArray 69)):=(Below.refl _ _).alloc (by rw [hz1];exact Nat.le_refl _) _
 have hT:Touch (fun b=>b=X.P d) w (((w.setCell ⟨X.P d,k*2,none⟩ (.slice (some ⟨w.heap.size,0,none⟩) os.length os.length)).setCell ⟨X.P d,k*2+1,none⟩ (.int .i64 0)).alloc (.cells (os.flatMap opL).toArray 69)):=
  ((Touch.setCell (F:=fun b=>b=X.P d) _ _ _ _ rfl).trans (Touch.setCell (F:=fun b=>b=X.P d) _ _ _ _ rfl)).trans (Touch.of_below hb (by rw [hz1];exact Nat.le_refl _))
 have kk:=h.kinT hT (8,d) (fun b hb=>by subst hb;exact h.labs.P d hd)
 have kc:=kk.cfg (by simp)
 have hn:∀ b l,X.lab b=some l→b≠w.heap.size:=fun b l hl e=>by
  have:=h.labs.lt b (by rw [hl];simp)
  omega
 have hl2:∀ b l2,X.lab b=some l2→(if b=w.heap.size then some (9,0) else X.lab b)=some l2:=fun b l2 e=>by rw [if_neg (hn b l2 e)];exact e
 have hP:X.P d≠w.heap.size:=hn _ _ (h.labs.P d hd)
 refine ⟨⟨h.nok,h.right,h.now0,h.now1,kk.row (by simp),kc.1,kk.mem (by simp) (by simp),kk.near (by simp) (by simp),kk.dom (by simp),h.dcap,fun e he=>?_,fun e j he hj=>?_,fun e he=>kk.far e he (by simp) (by simp),fun e he=>kk.wait e he (by simp),fun e he=>kk.trc e he (by simp),kk.wks (by simp),?_⟩,⟨rfl,hT.mono fun b hb=>by subst hb;unfold XLoc.mine;rw [h.labs.P d hd];simp,fun b hb hm=>?_⟩⟩
 ·
  by_cases e2:e=d
  ·
   subst e2
   refine ((((h.prg e he).set _ _).set _ _).below hb (by rw [hz1];exact Nat.le_refl _)).congr fun i _=>?_
   unfold prgV XLoc.gives up2
   by_cases e3:i / 2=k
   ·
    have:i=k*2∨i=k*2+1:=by omega
    rcases this with e4|e4
    · subst e4;simp [show k*2 / 2=k by omega]
    · subst e4;simp [show (k*2+1) / 2=k by omega,show (k*2+1)%2=1 by omega]
   ·
    have f1:i≠k*2:=by omega
    have f2:i≠k*2+1:=by omega
    simp [e3,f1,f2]
  ·
   refine (kk.prg e he (by simpa using e2)).congr fun i _=>?_
   unfold prgV XLoc.gives up2
   simp [e2]
 ·
  show (up2 m.ops d k os e j=[]∧up2 X.oa d k (some ⟨w.heap.size,0,none⟩) e j=none)∨∃ gO,up2 X.oa d k (some ⟨w.heap.size,0,none⟩) e j=some ⟨gO,0,none⟩∧Row _ gO ((up2 m.ops d k os e j).flatMap opL) 69
  by_cases e2:e=d∧j=k
  ·
   refine Or.inr ⟨w.heap.size,by simp [up2,e2],?_⟩
   have:up2 m.ops d k os e j=os:=by simp [up2,e2]
   rw [this]
   have hn:=heap_alloc_new ((w.setCell ⟨X.P d,k*2,none⟩ (.slice (some ⟨w.heap.size,0,none⟩) os.length os.length)).setCell ⟨X.P d,k*2+1,none⟩ (.int .i64 0)) (.cells (os.flatMap opL).toArray 69)
   rw [hz1] at hn
   exact hn
  ·
   have h3:=kk.ops (by simp) e j he hj
   have e3:up2 m.ops d k os e j=m.ops e j:=by simp [up2,e2]
   have e4:up2 X.oa d k (some ⟨w.heap.size,0,none⟩) e j=X.oa e j:=by simp [up2,e2]
   rw [e3,e4]
   exact h3
 ·
  refine ⟨fun b hb=>?_,hl2 _ _ h.labs.g,fun b hb=>hl2 _ _ (kc.2 b hb),hl2 _ _ h.labs.er,fun b hb=>hl2 _ _ (h.labs.eo b hb),hl2 _ _ h.labs.nr,fun b hb=>hl2 _ _ (h.labs.no b hb),hl2 _ _ h.labs.dm,hl2 _ _ h.labs.ck,fun e he=>hl2 _ _ (h.labs.P e he),fun e j he hj b off hb=>?_,fun e he b hb=>hl2 _ _ (h.labs.fo e he b hb),fun e he b hb=>hl2 _ _ (h.labs.fi e he b hb),fun e he b off hb=>hl2 _ _ (h.labs.wt e he b off hb),fun e he b off hb=>hl2 _ _ (h.labs.tr e he b off hb)⟩
  ·
   have hz:=World.size_alloc ((w.setCell ⟨X.P d,k*2,none⟩ (.slice (some ⟨w.heap.size,0,none⟩) os.length os.length)).setCell ⟨X.P d,k*2+1,none⟩ (.int .i64 0)) (.cells (os.flatMap opL).toArray 69)
   rw [hz1] at hz
   rw [hz]
   by_cases e:b=w.heap.size
   · omega
   ·
    simp only [XLoc.gives,e,if_false] at hb
    have:=h.labs.lt b hb
    omega
  ·
   have hb':up2 X.oa d k (some ⟨w.heap.size,0,none⟩) e j=some ⟨b,off,none⟩:=hb
   show (if b=w.heap.size then some (9,0) else X.lab b)=some (9,0)
   by_cases e2:e=d∧j=k
   ·
    have:up2 X.oa d k (some ⟨w.heap.size,0,none⟩) e j=some ⟨w.heap.size,0,none⟩:=by simp [up2,e2]
    rw [this] at hb'
    simp only [Option.some.injEq,Addr.mk.injEq] at hb'
    rw [if_pos hb'.1.symm]
   ·
    have e4:up2 X.oa d k (some ⟨w.heap.size,0,none⟩) e j=X.oa e j:=by simp [up2,e2]
    rw [e4] at hb'
    exact hl2 _ _ (h.labs.O e j he hj b off hb')
 ·
  unfold XLoc.mine XLoc.gives at hm
  by_cases e:b=w.heap.size
  · omega
  ·
   simp only [e,if_false] at hm
   exact hm
theorem Tryz.infoOpM:(Tryz.prog.info? 69).map (fun i=>(i.zero,i.size,i.bytes))=some (some (.agg #[.int .i64 0,.int .i64 0,.int .i64 0]),3,24):=by kernel_rfl
theorem flat_len3 (l:List OpT):(l.flatMap opL).length=l.length*3:=by
 induction l with
 | nil=>rfl
 | cons x xs ih=>rw [List.flatMap_cons,List.length_append,ih];show 3+xs.length*3=(xs.length+1)*3;omega
theorem flat_oneM (f:OpT→List Value)(hf:∀ a,∀ v∈f a,v.oneCell'=true)(l:List OpT):∀ v∈l.flatMap f,v.oneCell'=true:=fun v hv=>by
 rw [List.mem_flatMap] at hv
 obtain ⟨a,_,h2⟩:=hv
 exact hf a v h2
set_option maxHeartbeats 1600000 in
theorem kgive_any (N:Cn)(X:XLoc)(m:Mh)(d k:Int)(sa:Option Addr)(len cap:Nat)(os:List OpT)(w:World)(h:MachM w N X m)(hO:OpsAt w sa len cap os) :
  Calls Tryz.prog 98 #[.pointer (some ⟨X.g,0,none⟩),.int .i64 d,.int .i64 k,.slice sa len cap] w fun e w'=>e = .returned (.int .i64 (giveME N m d k os))∧∃ X',MachM w' N X' (giveMM N m d k os)∧Goes w w' X X':=by
 obtain ⟨i0,hi0,hz0,hz1,hz2⟩:=info_parts Tryz.infoOpM
 obtain ⟨n1,n2,n3,n4,n5,n6,n7,n8,n9,n10,n11,n12,n13,n14,n15⟩:=h.nums
 have T0:=h.now0
 have c13:w.cell? ⟨X.g,13,none⟩=some (.int .i64 m.now):=by rw [h.row.cell];rfl
 have c18:w.cell? ⟨X.g,18,none⟩=some (.slice (some ⟨X.dm,0,none⟩) N.nd X.dc):=by rw [h.row.cell];rfl
 have hR:=kopsRight_any sa len cap os w hO
 by_cases hbad:d<0∨N.c.domains≤d∨k<0∨N.c.cores≤k
 ·
  have e1:giveME N m d k os=6:=by unfold giveME;rw [if_pos hbad]
  have HE:Hid _:=e1
  have HM:Hid (MachM w N X (giveMM N m d k os)):=by unfold Hid giveMM;rw [if_neg (by rw [e1];decide)];exact h
  by_cases hd:0≤d∧d<(N.nd:Int)
  ·
   obtain ⟨i,rfl⟩:=Int.eq_ofNat_of_zero_le hd.1
   have hi:i<N.nd:=by omega
   obtain ⟨d0,_,_,_⟩:=dom_at h hi
   have cases:k<0∨(0≤k∧(N.nc:Int)≤k):=by omega
   clear e1 hbad n1 n2 n3 n4 n5 n6 n7 h hO hR hd
   rcases cases with b1|⟨b1,b2⟩
   all_goals
    go_enter Tryz.func98,Tryz.ntmps98
    go_wp2
    go_ret
    exact ⟨ret_int HE.out.symm,X,HM.out,Goes.refl _ _⟩
  ·
   have cases:d<0∨(0≤d∧(N.nd:Int)≤d):=by omega
   clear e1 hbad n1 n2 n3 n4 n5 n6 n7 h hO hR hd
   rcases cases with b1|⟨b1,b2⟩
   all_goals
    go_enter Tryz.func98,Tryz.ntmps98
    go_wp2
    go_ret
    exact ⟨ret_int HE.out.symm,X,HM.out,Goes.refl _ _⟩
 ·
  obtain ⟨i,rfl⟩:=Int.eq_ofNat_of_zero_le (show 0≤d by omega)
  obtain ⟨j,rfl⟩:=Int.eq_ofNat_of_zero_le (show 0≤k by omega)
  have hi:i<N.nd:=by omega
  have hj:j<N.nc:=by omega
  obtain ⟨d0,_,_,_⟩:=dom_at h hi
  by_cases a3:0<m.now
  ·
   have e1:giveME N m i j os=7:=by unfold giveME;rw [if_neg hbad,if_pos a3]
   have HE:Hid _:=e1
   have HM:Hid (MachM w N X (giveMM N m i j os)):=by unfold Hid giveMM;rw [if_neg (by rw [e1];decide)];exact h
   clear e1 hbad n1 n2 n3 n4 n5 n6 n7 h hO hR
   go_enter Tryz.func98,Tryz.ntmps98
   go_wp2
   go_ret
   exact ⟨ret_int HE.out.symm,X,HM.out,Goes.refl _ _⟩
  ·
   rcases Bool.eq_false_or_eq_true (opsOk os) with ho | ho
   ·
    have e1:giveME N m i j os=0:=by unfold giveME;rw [if_neg hbad,if_neg a3,if_pos ho]
    have HE:Hid _:=e1
    have HMM:Hid (giveMM N m i j os={ m with ops:=up2 m.ops i j os,dn:=up2 m.dn i j 0 }):=by unfold Hid giveMM;rw [if_pos e1,Int.toNat_natCast,Int.toNat_natCast]
    have hl64:len≤64:=by
     unfold opsOk at ho
     rw [Bool.and_eq_true,decide_eq_true_eq,hO.hlen] at ho
     exact ho.1
    have hcp:=run_copy_made (P:=Tryz.prog) w 28 28 3 69 3 Tryz.underlying28 (by rw [hi0];simp [hz1]) sa len len cap (#[.int .i64 0,.int .i64 0,.int .i64 0]) 69 (os.flatMap opL) (by rw [flat_len3,hO.hlen]) (fun h0=>by
     obtain ⟨b,off,e2,_⟩:=hO.hat 0 h0
     refine ⟨⟨b,off,none⟩,e2,fun q v hq=>?_⟩
     have hql:q<(os.flatMap opL).length:=(List.getElem?_eq_some_iff.1 hq).1
     rw [flat_len3,hO.hlen] at hql
     obtain ⟨b',off',e3,f1,f2,f3⟩:=hO.hat (q / 3) (by omega)
     rw [e2] at e3
     simp only [Option.some.injEq,Addr.mk.injEq] at e3
     obtain ⟨rfl,rfl,_⟩:=e3
     have hg:os[q / 3]? = some (os.getD (q / 3) opZ):=by rw [List.getD_eq_getElem?_getD,List.getElem?_eq_getElem (by rw [hO.hlen];omega)];rfl
     obtain ⟨g1,g2,g3⟩:=flat_op hg
     rw [add_plain']
     have:q=q / 3*3∨q=q / 3*3+1∨q=q / 3*3+2:=by omega
     rcases this with e4|e4|e4
     ·
      rw [e4] at hq ⊢
      rw [g1] at hq
      rw [f1,hq]
     ·
      rw [e4] at hq ⊢
      rw [g2] at hq
      rw [← Nat.add_assoc,f2,hq]
     ·
      rw [e4] at hq ⊢
      rw [g3] at hq
      rw [← Nat.add_assoc,f3,hq]) (flat_oneM _ (fun a v hv=>by simp [opL] at hv;rcases hv with e | e | e <;> subst e <;> rfl) _)
    have HS:Hid _:=h.setOps (k:=j) hi os
    have hol:=hO.hlen
    rw [hol] at HS
    obtain ⟨p0,p1⟩:=prg_at h hi hj
    have fp0:=(h.prg i hi).frozen (j*2)
    have fp1:=(h.prg i hi).frozen (j*2+1)
    have lg:=h.row.lt
    have ld:=h.dom.lt
    have lp:=(h.prg i hi).lt
    rw [ho] at hR
    clear e1 hbad n1 n2 n3 n4 n5 n6 n7 h hO ho hol
    go_enter Tryz.func98,Tryz.ntmps98
    go_wp2_with (first
     | (go_at_call 132;refine hR.mono ?_;rintro e w' ⟨rfl,rfl⟩)
     | (at_make;refine wpList_make_exact _ rfl _ _ 28 rfl 69 i0 _ Tryz.underlying28 hi0 hz0 .i64 .i64 _ _ len rfl rfl (by simp) (by simp) (by rw [hz2];omega) (by unfold maxLen;omega) ?_;rw [hz1]))
    all_goals go_ret
    all_goals exact ⟨ret_int HE.out.symm,_,by rw [HMM.out];exact HS.out.1,HS.out.2⟩
   ·
    have e1:giveME N m i j os=8:=by unfold giveME;rw [if_neg hbad,if_neg a3,if_neg (by rw [ho];simp)]
    have HE:Hid _:=e1
    have HM:Hid (MachM w N X (giveMM N m i j os)):=by unfold Hid giveMM;rw [if_neg (by rw [e1];decide)];exact h
    rw [ho] at hR
    clear e1 hbad n1 n2 n3 n4 n5 n6 n7 h hO ho
    go_enter Tryz.func98,Tryz.ntmps98
    go_wp2_with (go_at_call 132;refine hR.mono ?_;rintro e w' ⟨rfl,rfl⟩)
    go_ret
    exact ⟨ret_int HE.out.symm,X,HM.out,Goes.refl _ _⟩
end Go.Proofs.YtehheaedbnfidaaGreat
