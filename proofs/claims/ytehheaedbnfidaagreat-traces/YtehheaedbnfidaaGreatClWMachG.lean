import Derived.Laws.CopyRow
import Derived.Laws.Append
import Derived.Test.YtehheaedbnfidaaGreatClWOpen
import Derived.Test.YtehheaedbnfidaaGreatClMachD
import Derived.Test.YtehheaedbnfidaaGreatClMachH
set_option maxRecDepth 100000
namespace Go.Proofs.YtehheaedbnfidaaGreat
open Go.RowKit
set_option maxHeartbeats 6400000 in
theorem kendFault_any (N:Cn)(X:XLoc)(m:Mh)(k:Nat)(w:World)(h:MachM w N X m)(ok:MhOk N m)(hk:k<N.nc)(hb:(m.wk k).busy=true) :
  Calls Tryz.prog 156 #[.pointer (some ⟨X.g,0,none⟩),.int .i64 k] w fun e w'=>e = .returned (.tuple #[])∧∃ X',MachM w' N X' (m.endFault N k)∧Goes w w' X X':=by
 obtain ⟨n1,n2,n3,n4,n5,n6,n7,n8,n9,n10,n11,n12,n13,n14,n15⟩:=h.nums
 obtain ⟨d,hd,hdom,hdn⟩:=ok.bz k hk hb
 obtain ⟨o,ho⟩:=next_of_lt hdn
 have hNx:=fun w' hw=>knext_any N X m d k w' hw hd hk (ok.len d k) (Nat.le_trans (ok.dn d k) (ok.len d k))
 rw [ho] at hNx
 have c19:w.cell? ⟨X.g,19,none⟩=some (.slice (some ⟨X.ck,0,none⟩) N.nc N.nc):=by rw [h.row.cell];rfl
 obtain ⟨_,k1,_⟩:=wk_at h.wks hk
 rw [hdom] at k1
 have HE:Hid (m.endFault N k=if faultF N.c o≠0∧(m.wk k).issue+2≤m.now then m.finish k 0 (faultF N.c o) else m):=by
  unfold Hid Mh.endFault
  rw [hdom,Int.toNat_natCast,ho]
 obtain ⟨is0,is1⟩:=ok.is k hk
 have hno1:=h.now1
 have HM:Hid _:=h
 have HTL:Hid ((m.tr d).length≤1000):=by have:=ok.trl n8 d;unfold Hid;omega
 have HDN:Hid (m.dn d k≤64):=Nat.le_trans (ok.dn d k) (ok.len d k)
 have HDM:Hid _:=hdom
 obtain ⟨iss,hiss⟩:∃ a,(m.wk k).issue=a:=⟨_,rfl⟩
 rw [hiss] at HE is0 is1
 have HIS:Hid _:=hiss
 have wi1:IntKind.i64.wrap (iss+3)=iss+3:=by rw [IntKind.wrap_i64];omega
 have wi2:IntKind.i64.wrap (iss+3-1)=iss+2:=by rw [IntKind.wrap_i64];omega
 have wi3:iss+3-1=iss+2:=by omega
 obtain ⟨fv,hfv⟩:∃ fv,faultF N.c o=fv:=⟨_,rfl⟩
 rw [hfv] at HE
 have HFV:Hid _:=hfv
 clear h ok hb n1 n2 n3 n4 n5 n6 n7 ho hdom hdn hiss hfv
 go_enter Tryz.func156,Tryz.ntmps156
 go_wp2_with fail
 refine (hNx _ HM.out).mono ?_;rintro e w1 ⟨rfl,hb1⟩
 have M1:=HM.out.below hb1 (Nat.le_refl _)
 have hbA:Below w1.heap.size w1 (w1.alloc (.cells (opArr o) 69)):=(Below.refl _ _).alloc (Nat.le_refl _) _
 have M2:=M1.below hbA (Nat.le_refl _)
 have hFt:=kfault_any N X m o _ M2
 rw [HFV.out] at hFt
 have HG2:Hid (Goes w (w1.alloc (.cells (opArr o) 69)) X X):=(Goes.of_below hb1).trans (Goes.of_below hbA)
 have HM2:Hid _:=M2
 have hsz:w1.heap.size≤(w1.alloc (.cells (opArr o) 69)).heap.size:=hbA.size
 have hbw:=hb1.size
 obtain ⟨o1,o2,o3⟩:=o
 clear hNx c19 k1 hb1 M1 M2 hbA
 go_wp2_with fail
 refine hFt.mono ?_;rintro e w2 ⟨rfl,hb2⟩
 have M3:=HM2.out.below hb2 (Nat.le_refl _)
 have HG3:Hid (Goes w w2 X X):=HG2.out.trans (Goes.of_below hb2)
 have HM3:Hid _:=M3
 clear hFt
 by_cases a1:fv=0
 ·
  have HE2:Hid (m.endFault N k=m):=by unfold Hid;rw [HE.out,if_neg (by omega)]
  have a1b:(fv==0)=true:=by simp [a1]
  clear a1
  go_wp2
  refine bodyPost_ret (results_none rfl _ _ _) rfl ?_
  exact ⟨rfl,X,by rw [HE2.out];exact HM3.out,HG3.out⟩
 ·
  have a1b:(fv==0)=false:=by simp [a1]
  have c13:w2.cell? ⟨X.g,13,none⟩=some (.int .i64 m.now):=by rw [M3.row.cell];rfl
  have c19:w2.cell? ⟨X.g,19,none⟩=some (.slice (some ⟨X.ck,0,none⟩) N.nc N.nc):=by rw [M3.row.cell];rfl
  have k2:w2.cell? ⟨X.ck,k*3+2,none⟩=some (.int .i64 iss):=by rw [← HIS.out];exact (wk_at M3.wks hk).2.2
  clear M3
  by_cases a2:iss+2≤m.now
  ·
   have HE2:Hid (m.endFault N k=m.finish k 0 fv):=by unfold Hid;rw [HE.out,if_pos ⟨a1,a2⟩]
   go_wp2_with fail
   go_quiet (fail)
   go_wp2_with fail
   have hbq:Below w2.heap.size w2 (w2.drewN nq):=Go.below_drewN (Below.refl _ _) _
   refine (kfinish_any N X m k d 0 fv _ (HM3.out.below hbq (Nat.le_refl _)) hk hd HDM.out HDN.out HTL.out).mono ?_
   rintro e w3 ⟨rfl,X',hM,hG⟩
   go_wp2
   refine bodyPost_end (results_none rfl _ _ _) rfl ?_
   exact ⟨rfl,X',by rw [HE2.out];exact hM,(HG3.out.trans (Goes.of_below hbq)).trans hG⟩
  ·
   have HE2:Hid (m.endFault N k=m):=by unfold Hid;rw [HE.out,if_neg (by omega)]
   go_wp2_with fail
   go_quiet (fail)
   go_wp2
   refine bodyPost_end (results_none rfl _ _ _) rfl ?_
   exact ⟨rfl,X,by rw [HE2.out];exact HM3.out.below (Go.below_drewN (Below.refl _ _) _) (Nat.le_refl _),HG3.out.trans (Goes.of_below (Go.below_drewN (Below.refl _ _) _))⟩
end Go.Proofs.YtehheaedbnfidaaGreat
namespace Go.Proofs.YtehheaedbnfidaaGreat
theorem up1_ne {α:Type}{f:Nat→α}{i j:Nat}{v:α}(h:j≠i):up1 f i v j=f j:=by simp [up1,h]
theorem MhOk.finish {N:Cn}{m:Mh}(h:MhOk N m){k d:Nat}(hk:k<N.nc)(hd:d<N.nd)(hdom:(m.wk k).dom=(d:Int))(hdn:m.dn d k<(m.ops d k).length)(hw:∀ e,e<N.nd→(k:Int) ∉ m.wt e)(v f:Int):MhOk N (m.finish k v f):=by
 have hfin:m.finish k v f={ m with tr:=up1 m.tr d (m.tr d++[⟨k,m.dn d k,v,f,(m.wk k).issue,m.now⟩]),dn:=up2 m.dn d k (m.dn d k+1),wk:=up1 m.wk k ⟨false,(m.wk k).dom,(m.wk k).issue⟩ }:=by
  unfold Mh.finish
  dsimp only
  rw [hdom,Int.toNat_natCast]
 have hdn2:∀ e j,¬(e=d∧j=k)→up2 m.dn d k (m.dn d k+1) e j=m.dn e j:=fun e j hn=>by simp [up2,hn]
 rw [hfin]
 refine ⟨h.len,h.kin,fun e j=>?_,fun e=>?_,fun j hj hb=>?_,fun e he c hc=>?_,h.wn,fun j hj=>?_,h.ln,h.mks⟩
 ·
  show up2 m.dn d k (m.dn d k+1) e j≤(m.ops e j).length
  by_cases hc:e=d∧j=k
  ·
   obtain ⟨rfl,rfl⟩:=hc
   simp [up2];omega
  · rw [hdn2 e j hc];exact h.dn e j
 ·
  show (up1 m.tr d (m.tr d++[_]) e).length=sumN (up2 m.dn d k (m.dn d k+1) e) N.nc
  by_cases he:e=d
  ·
   subst he
   have e1:up2 m.dn e k (m.dn e k+1) e=up1 (m.dn e) k (m.dn e k+1):=by funext j;simp [up2,up1]
   rw [e1,sum_up,if_pos hk,up1_at,List.length_append,h.tr]
   have hle:m.dn e k≤sumN (m.dn e) N.nc:=by
    have:=sum_up (m.dn e) k 0 N.nc
    rw [if_pos hk] at this
    have h2:=sum_up (m.dn e) k (m.dn e k) N.nc
    rw [if_pos hk,up1_self] at h2
    omega
   simp
   omega
  ·
   have e1:up2 m.dn d k (m.dn d k+1) e=m.dn e:=by funext j;simp [up2,he]
   rw [e1,up1_ne he]
   exact h.tr e
 ·
  have hb':(up1 m.wk k ⟨false,(m.wk k).dom,(m.wk k).issue⟩ j).busy=true:=hb
  by_cases e:j=k
  · subst e;rw [up1_at] at hb';simp at hb'
  ·
   rw [up1_ne e] at hb'
   obtain ⟨d',h1,h2,h3⟩:=h.bz j hj hb'
   refine ⟨d',h1,?_,?_⟩
   ·
    show (up1 m.wk k _ j).dom=_
    rw [up1_ne e];exact h2
   ·
    show up2 m.dn d k (m.dn d k+1) d' j<_
    rw [hdn2 d' j (fun hh=>e hh.2)];exact h3
 ·
  obtain ⟨j,h1,h2,h3,h4,o,h5,h6⟩:=h.wt e he c hc
  have hjk:j≠k:=fun hh=>by subst hh;subst h2;exact hw e he hc
  refine ⟨j,h1,h2,?_,?_,o,?_,h6⟩
  ·
   show (up1 m.wk k _ j).busy=true
   rw [up1_ne hjk];exact h3
  ·
   show (up1 m.wk k _ j).dom=_
   rw [up1_ne hjk];exact h4
  ·
   show (m.ops e j)[up2 m.dn d k (m.dn d k+1) e j]? = some o
   rw [hdn2 e j (fun hh=>hjk hh.2)];exact h5
 ·
  show 0≤(up1 m.wk k _ j).issue∧(up1 m.wk k _ j).issue≤m.now
  by_cases e:j=k
  · subst e;rw [up1_at];exact h.is j hj
  · rw [up1_ne e];exact h.is j hj
theorem way_line {b:Nat→Bk}{n:Nat}{x:Int}(h:0≤wayF b n x):(b (wayF b n x).toNat).line=x:=by
 have:=(first_lt (fun j=>decide ((b j).line=x)) n 0).2
 unfold wayF at h ⊢
 rcases this with e|e
 · omega
 · simpa using e.2
theorem MhOk.perform {N:Cn}{m:Mh}(h:MhOk N m)(d:Nat)(o:OpT):MhOk N (m.perform N d o):=by
 unfold Mh.perform
 dsimp only
 split
 · exact h
 ·
  rename_i hc
  have hw:0≤wayF (m.blk d ((o.2.1 / (N.ln:Int)).toNat%N.ns)) (N.wn d) ((o.2.1 / (N.ln:Int)).toNat):=by omega
  have hl:=way_line hw
  refine ⟨h.len,h.kin,h.dn,h.tr,h.bz,h.wt,h.wn,h.is,fun e s j=>?_,fun e s j hh=>?_⟩
  ·
   simp only [up3]
   split
   · exact h.ln _ _ _
   · exact h.ln e s j
  ·
   simp only [up3] at hh ⊢
   split at hh
   ·
    rename_i hcc
    rw [if_pos hcc]
    simp only [] at hh
    rw [hl] at hh
    omega
   ·
    rename_i hcc
    rw [if_neg hcc]
    exact h.mks e s j hh
theorem MhOk.nrs {N:Cn}{m:Mh}(h:MhOk N m)(nr':Nat→Nat→Cp):MhOk N { m with nr:=nr' }:=⟨h.len,h.kin,h.dn,h.tr,h.bz,h.wt,h.wn,h.is,h.ln,h.mks⟩
theorem MhOk.tchs {N:Cn}{m:Mh}(h:MhOk N m)(t:Nat→Nat→List Int):MhOk N { m with tch:=t }:=⟨h.len,h.kin,h.dn,h.tr,h.bz,h.wt,h.wn,h.is,h.ln,h.mks⟩
theorem MhOk.owns {N:Cn}{m:Mh}(h:MhOk N m)(t:Nat→Nat→Int):MhOk N { m with own:=t }:=⟨h.len,h.kin,h.dn,h.tr,h.bz,h.wt,h.wn,h.is,h.ln,h.mks⟩
theorem MhOk.blks {N:Cn}{m:Mh}(h:MhOk N m)(d s j:Nat)(b:Bk)(h1:b.line=-1∨(0≤b.line∧b.line≤1000))(h2:b.line=-1→b.mkd=false):MhOk N { m with blk:=up3 m.blk d s j b }:=by
 refine ⟨h.len,h.kin,h.dn,h.tr,h.bz,h.wt,h.wn,h.is,fun e s' j'=>?_,fun e s' j' hh=>?_⟩
 ·
  simp only [up3]
  split
  · exact h1
  · exact h.ln e s' j'
 ·
  simp only [up3] at hh ⊢
  split at hh
  ·
   rename_i hcc
   rw [if_pos hcc];exact h2 hh
  ·
   rename_i hcc
   rw [if_neg hcc];exact h.mks e s' j' hh
theorem MhOk.pop {N:Cn}{m:Mh}(h:MhOk N m){d:Nat}{c:Int}{q:List Int}(hd:d<N.nd)(hq:m.wt d=c::q):MhOk N { m with wt:=up1 m.wt d q }∧c ∉ q∧∀ e,e<N.nd→c ∉ up1 m.wt d q e:=by
 have hn:=h.wn d hd
 rw [hq,List.nodup_cons] at hn
 refine ⟨⟨h.len,h.kin,h.dn,h.tr,h.bz,fun e he c' hc=>?_,fun e he=>?_,h.is,h.ln,h.mks⟩,hn.1,fun e he=>?_⟩
 ·
  have hc':c'∈up1 m.wt d q e:=hc
  by_cases e2:e=d
  · subst e2;rw [up1_at] at hc';exact h.wt e he c' (by rw [hq];exact List.mem_cons_of_mem _ hc')
  · rw [up1_ne e2] at hc';exact h.wt e he c' hc'
 ·
  show (up1 m.wt d q e).Nodup
  by_cases e2:e=d
  · subst e2;rw [up1_at];exact hn.2
  · rw [up1_ne e2];exact h.wn e he
 ·
  by_cases e2:e=d
  · subst e2;rw [up1_at];exact hn.1
  ·
   rw [up1_ne e2]
   intro hc
   obtain ⟨k,h1,h2,h3,h4,_⟩:=h.wt e he c hc
   obtain ⟨k',g1,g2,g3,g4,_⟩:=h.wt d hd c (by rw [hq];simp)
   have:k=k':=by omega
   subst this
   rw [h4] at g4
   omega
theorem MhOk.busy {N:Cn}{m:Mh}(h:MhOk N m){d k:Nat}(hd:d<N.nd)(hdn:m.dn d k<(m.ops d k).length)(hb:(m.wk k).busy=false)(h0:0≤m.now):MhOk N { m with wk:=up1 m.wk k ⟨true,d,m.now⟩ }∧∀ e,e<N.nd→(k:Int) ∉ m.wt e:=by
 have hno:∀ e,e<N.nd→(k:Int) ∉ m.wt e:=fun e he hc=>by
  obtain ⟨j,h1,h2,h3,_⟩:=h.wt e he _ hc
  have:k=j:=by omega
  subst this
  rw [hb] at h3
  cases h3
 refine ⟨⟨h.len,h.kin,h.dn,h.tr,fun j hj hbj=>?_,fun e he c hc=>?_,h.wn,fun j hj=>?_,h.ln,h.mks⟩,hno⟩
 ·
  by_cases e:j=k
  ·
   subst e
   exact ⟨d,hd,by show (up1 m.wk j _ j).dom=_;rw [up1_at],hdn⟩
  ·
   have hb':(up1 m.wk k ⟨true,d,m.now⟩ j).busy=true:=hbj
   rw [up1_ne e] at hb'
   obtain ⟨d',h1,h2,h3⟩:=h.bz j hj hb'
   exact ⟨d',h1,by show (up1 m.wk k _ j).dom=_;rw [up1_ne e];exact h2,h3⟩
 ·
  obtain ⟨j,h1,h2,h3,h4,o,h5,h6⟩:=h.wt e he c hc
  have hjk:j≠k:=fun hh=>by subst hh;subst h2;exact hno e he hc
  exact ⟨j,h1,h2,by show (up1 m.wk k _ j).busy=_;rw [up1_ne hjk];exact h3,by show (up1 m.wk k _ j).dom=_;rw [up1_ne hjk];exact h4,o,h5,h6⟩
 ·
  show 0≤(up1 m.wk k _ j).issue∧(up1 m.wk k _ j).issue≤m.now
  by_cases e:j=k
  · subst e;rw [up1_at];exact ⟨h0,Int.le_refl _⟩
  · rw [up1_ne e];exact h.is j hj
theorem MhOk.push {N:Cn}{m:Mh}(h:MhOk N m){d k:Nat}{o:OpT}(hk:k<N.nc)(hb:(m.wk k).busy=true)(hdom:(m.wk k).dom=(d:Int))(ho:m.next d k=some o)(hf:faultF N.c o=0)(hno:(k:Int) ∉ m.wt d):MhOk N { m with wt:=up1 m.wt d (m.wt d++[(k:Int)]) }:=by
 refine ⟨h.len,h.kin,h.dn,h.tr,h.bz,fun e he c hc=>?_,fun e he=>?_,h.is,h.ln,h.mks⟩
 ·
  have hc':c∈up1 m.wt d (m.wt d++[(k:Int)]) e:=hc
  by_cases e2:e=d
  ·
   subst e2
   rw [up1_at,List.mem_append] at hc'
   rcases hc' with h1|h1
   · exact h.wt e he c h1
   ·
    rw [List.mem_singleton] at h1
    exact ⟨k,hk,h1,hb,hdom,o,ho,hf⟩
  · rw [up1_ne e2] at hc';exact h.wt e he c hc'
 ·
  show (up1 m.wt d _ e).Nodup
  by_cases e2:e=d
  ·
   subst e2
   rw [up1_at,List.nodup_append]
   refine ⟨h.wn e he,by simp,fun a ha b hb2=>?_⟩
   rw [List.mem_singleton] at hb2
   subst hb2
   intro hh
   subst hh
   exact hno ha
  · rw [up1_ne e2];exact h.wn e he
structure CnOk (N:Cn):Prop where
 nok:N=cnOf N.c
 right:chk N.c=0
theorem CnOk.nums {N:Cn}(h:CnOk N):(N.nc:Int)=N.c.cores∧(N.nd:Int)=N.c.domains∧(N.nn:Int)=N.c.near∧(N.ns:Int)=N.c.sets∧(N.ln:Int)=N.c.line∧(N.pv:Int)=N.c.priv∧(N.sn:Int)=N.c.shared∧N.nc≤3∧0<N.nc∧N.nd≤4∧0<N.nd∧(N.ln=1∨N.ln=2∨N.ln=4)∧N.pv≤64∧N.sn≤32∧0<N.pv:=by
 have sb:=shape_bounds (chk_zero h.right).1
 have e:=h.nok
 have e1:N.nc=N.c.cores.toNat:=by rw [e];rfl
 have e2:N.nd=N.c.domains.toNat:=by rw [e];rfl
 have e3:N.nn=N.c.near.toNat:=by rw [e];rfl
 have e4:N.ns=N.c.sets.toNat:=by rw [e];rfl
 have e5:N.ln=N.c.line.toNat:=by rw [e];rfl
 have e6:N.pv=N.c.priv.toNat:=by rw [e];rfl
 have e7:N.sn=N.c.shared.toNat:=by rw [e];rfl
 omega
theorem CnOk.line {N:Cn}(h:CnOk N){o:OpT}(hf:faultF N.c o=0):(o.2.1 / (N.ln:Int)).toNat≤96:=by
 have hn:=h.nums
 have h1:=fault_free hf
 have q1:o.2.1 / (N.ln:Int)≤o.2.1:=Int.ediv_le_self _ h1.1
 omega
theorem MhOk.begin {N:Cn}{m:Mh}(h:MhOk N m){d k:Nat}{o:OpT}(hk:k<N.nc)(hd:d<N.nd)(ho:m.next d k=some o)(hb:(m.wk k).busy=false)(h0:0≤m.now):MhOk N (m.begin N d k o):=by
 have hdn:=(Mh.next_lt ho).1
 obtain ⟨h1,hno⟩:=h.busy hd hdn hb h0
 unfold Mh.begin
 dsimp only
 split
 · exact h1
 ·
  rename_i hf
  have hf':faultF N.c o=0:=by simpa using hf
  split
  · exact h1.push hk (by simp [up1]) (by simp [up1]) ho hf' (hno d hd)
  ·
   split
   ·
    have h2:=(h1.nrs (putN N.nn m.nr k d (o.2.1 / (N.ln:Int)).toNat 3)).perform d o
    have hs:=perform_same N { { m with wk:=up1 m.wk k ⟨true,d,m.now⟩ } with nr:=putN N.nn m.nr k d (o.2.1 / (N.ln:Int)).toNat 3 } d o
    have hw:∀ (mm:Mh),(mm.perform N d o).wt=mm.wt∧(mm.perform N d o).ops=mm.ops:=fun mm=>by
     unfold Mh.perform;dsimp only;split <;> exact ⟨rfl,rfl⟩
    refine h2.finish hk hd ?_ ?_ ?_ _ _
    · rw [hs.1];simp [up1]
    · rw [hs.2.1,(hw _).2];exact hdn
    · rw [(hw _).1];exact hno
   ·
    have h2:=h1.perform d o
    have hs:=perform_same N { m with wk:=up1 m.wk k ⟨true,d,m.now⟩ } d o
    have hw:∀ (mm:Mh),(mm.perform N d o).wt=mm.wt∧(mm.perform N d o).ops=mm.ops:=fun mm=>by
     unfold Mh.perform;dsimp only;split <;> exact ⟨rfl,rfl⟩
    refine h2.finish hk hd ?_ ?_ ?_ _ _
    · rw [hs.1];simp [up1]
    · rw [hs.2.1,(hw _).2];exact hdn
    · rw [(hw _).1];exact hno
theorem MhOk.endFault {N:Cn}{m:Mh}(h:MhOk N m){k:Nat}(hk:k<N.nc)(hb:(m.wk k).busy=true):MhOk N (m.endFault N k):=by
 obtain ⟨d,hd,hdom,hdn⟩:=h.bz k hk hb
 unfold Mh.endFault
 rw [hdom,Int.toNat_natCast]
 split
 · exact h
 ·
  rename_i o ho
  split
  ·
   rename_i hf
   refine h.finish hk hd hdom hdn (fun e he hc=>?_) _ _
   obtain ⟨j,h1,h2,h3,h4,o',h5,h6⟩:=h.wt e he _ hc
   have:k=j:=by omega
   subst this
   rw [hdom] at h4
   have:d=e:=by omega
   subst this
   rw [ho] at h5
   have:o=o':=Option.some.inj h5
   subst this
   exact hf.1 h6
  · exact h
theorem MhOk.step {N:Cn}{m:Mh}(h:MhOk N m)(hN:CnOk N){k:Nat}(hk:k<N.nc)(h0:0≤m.now)(hr:∀ t,openB N.c k (turnZ N.c k t) t=true→0≤turnZ N.c k t∧turnZ N.c k t<N.c.domains)(served:Int):MhOk N (m.step N served k):=by
 unfold Mh.step
 split
 · rename_i hb;exact h.endFault hk hb
 ·
  rename_i hb
  split
  · exact h
  ·
   split
   · exact h
   ·
    rename_i ho
    have ho':openB N.c k (turnZ N.c k m.now) m.now=true:=by simpa using ho
    have:=hr _ ho'
    have hn:=hN.nums
    split
    · exact h
    ·
     rename_i o hnx
     exact h.begin hk (by omega) hnx (by simpa using hb) h0
theorem step_now (N:Cn)(m:Mh)(served:Int)(k:Nat):(m.step N served k).now=m.now:=by
 unfold Mh.step Mh.endFault Mh.begin Mh.finish Mh.perform
 dsimp only
 repeat' (first | rfl | split)
theorem MhOk.alter {N:Cn}{m:Mh}(h:MhOk N m)(own':Nat→Nat→Int)(nr':Nat→Nat→Cp)(d s j:Nat)(b:Bk)(h1:b.line=-1∨(0≤b.line∧b.line≤1000))(h2:b.line=-1→b.mkd=false):MhOk N { m with own:=own',nr:=nr',blk:=up3 m.blk d s j b }:=
 ((h.owns own').nrs nr').blks d s j b h1 h2
theorem MhOk.fetch {N:Cn}{m:Mh}(h:MhOk N m){d x:Nat}(hx:x≤1000):MhOk N (m.fetch N d x):=by
 have e1:(0:Int)≤(x:Int):=by omega
 have e2:(x:Int)≤1000:=by omega
 unfold Mh.fetch
 dsimp only
 generalize (roomF (m.blk d (x%N.ns)) (N.wn d) (m.tch d (x%N.ns))).toNat=r
 by_cases c1:(m.blk d (x%N.ns) r).line=-1
 ·
  by_cases c2:(m.blk d (x%N.ns) r).mkd=true
  · simp only [c1,c2,if_true];exact h.alter _ _ d _ _ bkE (Or.inl rfl) (fun _=>rfl)
  · simp only [c1,c2,if_true];exact h.alter _ _ d _ _ _ (Or.inr ⟨e1,e2⟩) (fun _=>rfl)
 ·
  by_cases c2:(m.blk d (x%N.ns) r).mkd=true
  · simp only [c1,c2,if_true,if_false];exact h.alter _ _ d _ _ bkE (Or.inl rfl) (fun _=>rfl)
  · simp only [c1,c2,if_false];exact h.alter _ _ d _ _ _ (Or.inr ⟨e1,e2⟩) (fun _=>rfl)
theorem hand_same (N:Cn)(m:Mh)(d k:Nat)(o:OpT):∃ nr',m.hand N d k o={ m with nr:=nr' }:=by
 unfold Mh.hand
 dsimp only
 split
 · exact ⟨_,rfl⟩
 · exact ⟨_,rfl⟩
theorem perform_more (N:Cn)(m:Mh)(d:Nat)(o:OpT):(m.perform N d o).wt=m.wt∧(m.perform N d o).ops=m.ops∧(m.perform N d o).now=m.now:=by
 unfold Mh.perform;dsimp only;split <;> exact ⟨rfl,rfl,rfl⟩
theorem MhOk.serve {N:Cn}{m:Mh}(h:MhOk N m)(hN:CnOk N){d:Nat}(hd:d<N.nd):MhOk N (m.serve N d).1:=by
 unfold Mh.serve
 split
 · exact h
 ·
  rename_i c q hq
  obtain ⟨k,h1,h2,h3,h4,o,h5,h6⟩:=h.wt d hd c (by rw [hq];simp)
  subst h2
  dsimp only
  rw [Int.toNat_natCast,h5]
  dsimp only
  have hx:=hN.line h6
  split
  · exact h.fetch (by omega)
  ·
   obtain ⟨p1,p2,p3⟩:=h.pop hd hq
   have hdn:=(Mh.next_lt h5).1
   have q1:=p1.tchs (up2 m.tch d ((o.2.1 / (N.ln:Int)).toNat%N.ns) (touchF (m.tch d ((o.2.1 / (N.ln:Int)).toNat%N.ns)) (wayF (m.blk d ((o.2.1 / (N.ln:Int)).toNat%N.ns)) (N.wn d) ((o.2.1 / (N.ln:Int)).toNat))))
   obtain ⟨nr',hh⟩:=hand_same N { { m with wt:=up1 m.wt d q } with tch:=up2 m.tch d ((o.2.1 / (N.ln:Int)).toNat%N.ns) (touchF (m.tch d ((o.2.1 / (N.ln:Int)).toNat%N.ns)) (wayF (m.blk d ((o.2.1 / (N.ln:Int)).toNat%N.ns)) (N.wn d) ((o.2.1 / (N.ln:Int)).toNat))) } d k o
   rw [hh]
   have q2:=(q1.nrs nr').perform d o
   have hs:=perform_same N { { { m with wt:=up1 m.wt d q } with tch:=up2 m.tch d ((o.2.1 / (N.ln:Int)).toNat%N.ns) (touchF (m.tch d ((o.2.1 / (N.ln:Int)).toNat%N.ns)) (wayF (m.blk d ((o.2.1 / (N.ln:Int)).toNat%N.ns)) (N.wn d) ((o.2.1 / (N.ln:Int)).toNat))) } with nr:=nr' } d o
   have hw:=perform_more N { { { m with wt:=up1 m.wt d q } with tch:=up2 m.tch d ((o.2.1 / (N.ln:Int)).toNat%N.ns) (touchF (m.tch d ((o.2.1 / (N.ln:Int)).toNat%N.ns)) (wayF (m.blk d ((o.2.1 / (N.ln:Int)).toNat%N.ns)) (N.wn d) ((o.2.1 / (N.ln:Int)).toNat))) } with nr:=nr' } d o
   refine q2.finish h1 hd ?_ ?_ ?_ _ _
   · rw [hs.1];exact h4
   · rw [hs.2.1,hw.2.1];exact hdn
   · rw [hw.1];exact p3
theorem finish_now (m:Mh)(k:Nat)(v f:Int):(m.finish k v f).now=m.now:=rfl
theorem fetch_now (N:Cn)(m:Mh)(d x:Nat):(m.fetch N d x).now=m.now:=by
 unfold Mh.fetch
 dsimp only
 repeat' (first | rfl | split)
theorem serve_now (N:Cn)(m:Mh)(d:Nat):(m.serve N d).1.now=m.now:=by
 unfold Mh.serve
 split
 · rfl
 ·
  dsimp only
  split
  · rfl
  ·
   split
   · exact fetch_now N m d _
   ·
    rw [finish_now,(perform_more N _ _ _).2.2]
    unfold Mh.hand
    dsimp only
    split <;> rfl
theorem MhOk.service {N:Cn}{m:Mh}(h:MhOk N m)(hN:CnOk N)(hr:∀ t,servedF N.c t=-1∨(0≤servedF N.c t∧servedF N.c t<N.c.domains)):MhOk N (m.service N).1:=by
 unfold Mh.service
 split
 · exact h
 ·
  have:=hr m.now
  have hn:=hN.nums
  exact h.serve hN (by omega)
theorem service_now (N:Cn)(m:Mh):(m.service N).1.now=m.now:=by
 unfold Mh.service
 split
 · rfl
 · exact serve_now N m _
theorem MhOk.steps {N:Cn}(hN:CnOk N)(hr:∀ k,k<N.nc→∀ t,openB N.c k (turnZ N.c k t) t=true→0≤turnZ N.c k t∧turnZ N.c k t<N.c.domains)(served:Int):∀ (n:Nat) (m:Mh),MhOk N m→0≤m.now→n≤N.nc→MhOk N (Mh.steps N served n m)∧(Mh.steps N served n m).now=m.now
 | 0,m,h,_,_=>⟨h,rfl⟩
 | n+1,m,h,h0,hn=>by
  obtain ⟨h1,h2⟩:=MhOk.steps hN hr served n m h h0 (by omega)
  exact ⟨h1.step hN (by omega) (by rw [h2];exact h0) (hr n (by omega)) served,(step_now N _ served n).trans h2⟩
end Go.Proofs.YtehheaedbnfidaaGreat
namespace Go.Proofs.YtehheaedbnfidaaGreat
open Go.RowKit
theorem run_copy_size {P:Program}(w0:World)(dT sT oT:TypeId)(elem:TypeId)(sz:Nat)(hu:P.underlying dT=some (.slice elem))(hsz:(P.info? elem).map (·.size)=some sz)
  (sp:Option Addr) (n dCap sCap:Nat)
  (cur:List Value) (t:TypeId) (cs:List Value) (hn:cs.length=n*sz)
  (hpos:0<n→∃ ad,sp=some ad∧∀ j v,cs[j]? = some v→(w0.alloc (.cells cur.toArray t)).cell? (ad.add j)=some v)
  (hfit:cs.length≤cur.length) (h1:∀ v∈cs,v.oneCell'=true) :
  (Builtin.copy_ #[dT,sT] oT #[.slice (some ⟨w0.heap.size,0,none⟩) n dCap,.slice sp n sCap]).run P (w0.alloc (.cells cur.toArray t)) = .ok (goInt n) (w0.alloc (.cells (cs++cur.drop cs.length).toArray t)):=by
 cases hq:P.info? elem with
 | none=>simp [hq] at hsz
 | some i=>
  have hi:i.size=sz:=by simpa [hq] using hsz
  by_cases hz:n=0
  ·
   subst hz
   have hc:cs=[]:=List.eq_nil_of_length_eq_zero (by simpa using hn)
   subst hc
   cases sp with
   | none=>simp [Builtin.copy_,run_underlying hu,Builtin.lenOf,Builtin.firstCells,sizeOf,typeInfo,hq,storeCells]
   | some a=>
    have hl:(loadCells a 0).run P (w0.alloc (.cells cur.toArray t)) = .ok #[] (w0.alloc (.cells cur.toArray t)):=by simpa using run_loadCells_list (P:=P) (w0.alloc (.cells cur.toArray t)) a [] (by simp)
    simp [Builtin.copy_,run_underlying hu,Builtin.lenOf,Builtin.firstCells,sizeOf,typeInfo,hq,storeCells,hl]
  ·
   obtain ⟨ad,rfl,hsrc⟩:=hpos (by omega)
   have hl:=run_loadCells_list (P:=P) (w0.alloc (.cells cur.toArray t)) ad cs hsrc
   rw [hn] at hl
   have hst:=run_storeCells_at P w0.heap.size 0 t cs 0 cur.toArray (w0.alloc (.cells cur.toArray t)) (heap_alloc_new w0 _) (by simpa using hfit) h1
   rw [alloc_setRow] at hst
   simp [Builtin.copy_,run_underlying hu,Builtin.lenOf,Builtin.firstCells,sizeOf,typeInfo,hq,hi,hl,hst]
theorem made_size (A:Array Value)(n:Nat):(madeCells A n).size=n:=by simp [madeCells]
theorem run_copy_made {P:Program}(w0:World)(dT sT oT:TypeId)(elem:TypeId)(sz:Nat)(hu:P.underlying dT=some (.slice elem))(hsz:(P.info? elem).map (·.size)=some sz)
  (sp:Option Addr) (n dCap sCap:Nat) (A:Array Value) (t:TypeId) (cs:List Value) (hn:cs.length=n*sz)
  (hpos:0<n→∃ ad,sp=some ad∧∀ j v,cs[j]? = some v→w0.cell? (ad.add j)=some v) (h1:∀ v∈cs,v.oneCell'=true) :
  (Builtin.copy_ #[dT,sT] oT #[.slice (some ⟨w0.heap.size,0,none⟩) n dCap,.slice sp n sCap]).run P (w0.alloc (.cells (madeCells A (n*sz)) t)) = .ok (goInt n) (w0.alloc (.cells cs.toArray t)):=by
 have hs:(madeCells A (n*sz)).toList.length=n*sz:=by rw [Array.length_toList,made_size]
 have:=run_copy_size (P:=P) w0 dT sT oT elem sz hu hsz sp n dCap sCap (madeCells A (n*sz)).toList t cs hn (fun h0=>by
  obtain ⟨ad,e,hc⟩:=hpos h0
  refine ⟨ad,e,fun j v hj=>?_⟩
  have h2:=hc j v hj
  rw [← h2]
  have hlt:=cell_lt h2
  exact Below.cell ((Below.refl w0.heap.size w0).alloc (Nat.le_refl _) _) hlt) (by rw [hn,hs];exact Nat.le_refl _) h1
 rw [hn,List.drop_of_length_le (by rw [hs];exact Nat.le_refl _),List.append_nil,Array.toArray_toList] at this
 exact this
end Go.Proofs.YtehheaedbnfidaaGreat
namespace Go.Proofs.YtehheaedbnfidaaGreat
structure FarR (c:Cf)(ns wn ln:Nat)(first:Int→Int)(blk:Nat→Nat→Bk)(L:List Ent):Prop where
 line:∀ s j,s<ns→j<wn→(blk s j).line=liesF c s j L
 wh:∀ x:Nat,whereF x L=wayF (blk (x%ns)) wn x
 low:∀ s j,s<ns→j<wn→-1≤(blk s j).line
 set:∀ s j,s<ns→j<wn→0≤(blk s j).line→(blk s j).line%(ns:Int)=s
 one:∀ s i j,s<ns→i<wn→j<wn→0≤(blk s i).line→(blk s i).line=(blk s j).line→i=j
 mkd:∀ s j,s<ns→j<wn→0≤(blk s j).line→(blk s j).mkd=markedF (blk s j).line L
 wd:∀ s j i,s<ns→j<wn→i<ln→0≤(blk s j).line→(blk s j).wd i=wordF ((blk s j).line*ln+i) (first ((blk s j).line*ln+i)) L
theorem first_none {p:Nat→Bool}:∀ (n j:Nat),(∀ i,j≤i→i<j+n→p i=false)→firstW p n j=-1
 | 0,_,_=>rfl
 | n+1,j,h=>by
  unfold firstW
  rw [if_neg (by rw [h j (Nat.le_refl _) (by omega)];simp)]
  exact first_none n (j+1) (fun i h1 h2=>h i (by omega) (by omega))
theorem first_hit {p:Nat→Bool}{k:Nat}:∀ (n j:Nat),j≤k→k<j+n→p k=true→(∀ i,j≤i→i<k→p i=false)→firstW p n j=k
 | 0,j,h1,h2,_,_=>by omega
 | n+1,j,h1,h2,h3,h4=>by
  unfold firstW
  by_cases e:j=k
  · subst e;rw [if_pos h3]
  ·
   rw [if_neg (by rw [h4 j (Nat.le_refl _) (by omega)];simp)]
   exact first_hit n (j+1) (by omega) (by omega) h3 (fun i h5 h6=>h4 i (by omega) h6)
theorem way_is {b:Nat→Bk}{n k:Nat}{x:Int}(hk:k<n)(hl:(b k).line=x)(ho:∀ i,i<n→(b i).line=x→i=k):wayF b n x=k:=
 first_hit n 0 (Nat.zero_le _) (by omega) (by simp [hl]) (fun i _ h2=>by
  have:¬(b i).line=x:=fun e=>by have:=ho i (by omega) e;omega
  simp [this])
theorem way_none {b:Nat→Bk}{n:Nat}{x:Int}(ho:∀ i,i<n→(b i).line≠x):wayF b n x=-1:=
 first_none n 0 (fun i _ h2=>by simp [ho i (by omega)])
theorem FarR.start (c:Cf)(ns wn ln:Nat)(first:Int→Int):FarR c ns wn ln first (fun _ _=>bkE) []:=
 ⟨fun _ _ _ _=>rfl,fun x=>(way_none (fun i _=>by show (-1:Int)≠x;omega)).symm,fun _ _ _ _=>by show (-1:Int)≤-1;omega,fun _ _ _ _ h=>by have:(0:Int)≤-1:=h;omega,fun _ _ _ _ _ _ h=>by have:(0:Int)≤-1:=h;omega,fun _ _ _ _ h=>by have:(0:Int)≤-1:=h;omega,fun _ _ _ _ _ _ h=>by have:(0:Int)≤-1:=h;omega⟩
theorem FarR.other {c:Cf}{ns wn ln:Nat}{first:Int→Int}{blk:Nat→Nat→Bk}{L:List Ent}(h:FarR c ns wn ln first blk L){e:Ent}(h1:e.what≠1)(h2:e.what≠2)(h4:e.what≠4):FarR c ns wn ln first blk (e::L):=by
 have b1:(e.what==1)=false:=by simp [h1]
 have b4:(e.what==4)=false:=by simp [h4]
 refine ⟨fun s j hs hj=>by rw [liesF_far h1 h2];exact h.line s j hs hj,fun x=>by rw [whereF_far h1 h2];exact h.wh x,h.low,h.set,h.one,fun s j hs hj h0=>?_,fun s j i hs hj hi h0=>?_⟩
 · rw [h.mkd s j hs hj h0];simp [markedF,b1,b4]
 · rw [h.wd s j i hs hj hi h0];simp [wordF,b4]
theorem FarR.gone {c:Cf}{ns wn ln:Nat}{first:Int→Int}{blk:Nat→Nat→Bk}{L:List Ent}(h:FarR c ns wn ln first blk L)(hns:(ns:Int)=c.sets)(h0:0<ns){t:Int}{y r:Nat}(hr:r<wn)(hy:(blk (y%ns) r).line=y) :
  FarR c ns wn ln first (up2 blk (y%ns) r bkE) (⟨t,2,0,y,r,false,false,0,0⟩::L):=by
 have hs:y%ns<ns:=Nat.mod_lt _ h0
 have hm:((y:Int)%c.sets)=((y%ns:Nat):Int):=by rw [← hns];simp
 have keep:∀ s j,¬(s=y%ns∧j=r)→up2 blk (y%ns) r bkE s j=blk s j:=fun s j hn=>by simp [up2,hn]
 have kn:∀ s j,s<ns→j<wn→0≤(up2 blk (y%ns) r bkE s j).line→¬(s=y%ns∧j=r):=fun s j _ _ hh hc=>by
  have:up2 blk (y%ns) r bkE s j=bkE:=by simp [up2,hc]
  rw [this] at hh
  have:(0:Int)≤-1:=hh
  omega
 have ny:∀ s j,s<ns→j<wn→0≤(up2 blk (y%ns) r bkE s j).line→(up2 blk (y%ns) r bkE s j).line≠y:=fun s j hs' hj hh e=>by
  have hn:=kn s j hs' hj hh
  rw [keep s j hn] at e hh
  have h1:=h.set s j hs' hj hh
  rw [e] at h1
  have h2:s=y%ns:=by omega
  subst h2
  exact hn ⟨rfl,h.one _ _ _ hs' hj hr hh (e.trans hy.symm)⟩
 refine ⟨fun s j hs' hj=>?_,fun x=>?_,fun s j hs' hj=>?_,fun s j hs' hj hh=>?_,fun s i j hs' hi hj hh he=>?_,fun s j hs' hj hh=>?_,fun s j i hs' hj hi hh=>?_⟩
 ·
  by_cases hc:s=y%ns∧j=r
  ·
   obtain ⟨rfl,rfl⟩:=hc
   simp [up2,liesF,hm,bkE]
  ·
   rw [keep s j hc,h.line s j hs' hj]
   have:¬(((y%ns:Nat):Int)=s∧(r:Int)=j):=by omega
   by_cases e1:((y%ns:Nat):Int)=s
   ·
    have e2:¬(r:Int)=j:=fun e=>this ⟨e1,e⟩
    simp [liesF,e2]
   ·
    have e1':¬((y:Int)%c.sets=(s:Int)):=by rw [hm];exact e1
    simp [liesF,e1']
 ·
  by_cases e:x=y
  ·
   subst e
   rw [way_none]
   · simp [whereF]
   ·
    intro i hi he
    by_cases hh:0≤(up2 blk (x%ns) r bkE (x%ns) i).line
    · exact ny _ _ hs hi hh he
    · omega
  ·
   have e':¬(y:Int)=(x:Int):=by omega
   have hw:whereF (x:Int) (⟨t,2,0,y,r,false,false,0,0⟩::L)=whereF x L:=by simp [whereF,e']
   rw [hw,h.wh x]
   unfold wayF
   congr 1
   funext j
   by_cases hc:x%ns=y%ns∧j=r
   ·
    have h1:up2 blk (y%ns) r bkE (x%ns) j=bkE:=by simp [up2,hc]
    have h2:(blk (x%ns) j).line=y:=by rw [hc.1,hc.2];exact hy
    rw [h1,h2]
    have:¬(bkE.line=(x:Int)):=by show ¬(-1:Int)=x;omega
    simp [this,e']
   · rw [keep _ _ hc]
 ·
  by_cases hc:s=y%ns∧j=r
  ·
   have:up2 blk (y%ns) r bkE s j=bkE:=by simp [up2,hc]
   rw [this];show (-1:Int)≤-1;omega
  · rw [keep s j hc];exact h.low s j hs' hj
 ·
  have hn:=kn s j hs' hj hh
  rw [keep s j hn] at hh ⊢
  exact h.set s j hs' hj hh
 ·
  have hn:=kn s i hs' hi hh
  have hn2:=kn s j hs' hj (by rw [← he];exact hh)
  rw [keep s i hn] at hh he
  rw [keep s j hn2] at he
  exact h.one s i j hs' hi hj hh he
 ·
  have hn:=kn s j hs' hj hh
  have hny:=ny s j hs' hj hh
  rw [keep s j hn] at hh hny ⊢
  rw [h.mkd s j hs' hj hh]
  simp [markedF]
 ·
  have hn:=kn s j hs' hj hh
  rw [keep s j hn] at hh ⊢
  rw [h.wd s j i hs' hj hi hh]
  simp [wordF]
theorem FarR.fill {c:Cf}{ns wn ln:Nat}{first:Int→Int}{blk:Nat→Nat→Bk}{L:List Ent}(h:FarR c ns wn ln first blk L)(hns:(ns:Int)=c.sets)(h0:0<ns){t:Int}{x r:Nat}{F:Nat→Int}(hr:r<wn)(he:(blk (x%ns) r).line=-1)(hno:wayF (blk (x%ns)) wn x=-1)
  (hF:∀ i,i<ln→F i=wordF ((x:Int)*ln+i) (first ((x:Int)*ln+i)) L) :
  FarR c ns wn ln first (up2 blk (x%ns) r ⟨x,false,F⟩) (⟨t,1,0,x,r,false,false,0,0⟩::L):=by
 have hs:x%ns<ns:=Nat.mod_lt _ h0
 have hm:((x:Int)%c.sets)=((x%ns:Nat):Int):=by rw [← hns];simp
 have at':∀ s j,s=x%ns∧j=r→up2 blk (x%ns) r ⟨x,false,F⟩ s j=⟨x,false,F⟩:=fun s j hc=>by simp [up2,hc]
 have keep:∀ s j,¬(s=x%ns∧j=r)→up2 blk (x%ns) r ⟨x,false,F⟩ s j=blk s j:=fun s j hn=>by simp [up2,hn]
 have nx:∀ s j,s<ns→j<wn→(blk s j).line≠x:=fun s j hs' hj e=>by
  have h1:=h.set s j hs' hj (by omega)
  rw [e] at h1
  have h2:s=x%ns:=by omega
  subst h2
  have h3:=way_is hj e (fun i hi hi2=>h.one _ i j hs' hi hj (by omega) (hi2.trans e.symm))
  rw [h3] at hno
  omega
 refine ⟨fun s j hs' hj=>?_,fun y=>?_,fun s j hs' hj=>?_,fun s j hs' hj hh=>?_,fun s i j hs' hi hj hh hq=>?_,fun s j hs' hj hh=>?_,fun s j i hs' hj hi hh=>?_⟩
 ·
  by_cases hc:s=x%ns∧j=r
  ·
   rw [at' s j hc]
   obtain ⟨rfl,rfl⟩:=hc
   simp [liesF,hm]
  ·
   rw [keep s j hc,h.line s j hs' hj]
   have:¬(((x%ns:Nat):Int)=s∧(r:Int)=j):=by omega
   by_cases e1:((x%ns:Nat):Int)=s
   ·
    have e2:¬(r:Int)=j:=fun e=>this ⟨e1,e⟩
    simp [liesF,e2]
   ·
    have e1':¬((x:Int)%c.sets=(s:Int)):=by rw [hm];exact e1
    simp [liesF,e1']
 ·
  by_cases e:y=x
  ·
   subst e
   have hw:whereF (y:Int) (⟨t,1,0,y,r,false,false,0,0⟩::L)=r:=by simp [whereF]
   rw [hw]
   refine (way_is hr (by rw [at' _ _ ⟨rfl,rfl⟩]) (fun i hi hi2=>?_)).symm
   by_cases e2:i=r
   · exact e2
   ·
    rw [keep _ _ (fun hc=>e2 hc.2)] at hi2
    exact absurd hi2 (nx _ i hs hi)
  ·
   have e':¬(x:Int)=(y:Int):=by omega
   have hw:whereF (y:Int) (⟨t,1,0,x,r,false,false,0,0⟩::L)=whereF y L:=by simp [whereF,e']
   rw [hw,h.wh y]
   unfold wayF
   congr 1
   funext j
   by_cases hc:y%ns=x%ns∧j=r
   ·
    have h2:(blk (y%ns) j).line=-1:=by rw [hc.1,hc.2];exact he
    rw [at' _ _ hc,h2]
    have:¬((-1:Int)=(y:Int)):=by omega
    simp [this,e']
   · rw [keep _ _ hc]
 ·
  by_cases hc:s=x%ns∧j=r
  · rw [at' s j hc];show (-1:Int)≤x;omega
  · rw [keep s j hc];exact h.low s j hs' hj
 ·
  by_cases hc:s=x%ns∧j=r
  · rw [at' s j hc,hc.1];show (x:Int)%ns=_;simp
  · rw [keep s j hc] at hh ⊢;exact h.set s j hs' hj hh
 ·
  by_cases hc:s=x%ns∧i=r
  ·
   by_cases hd:s=x%ns∧j=r
   · omega
   ·
    rw [at' s i hc,keep s j hd] at hq
    exact absurd hq.symm (nx s j hs' hj)
  ·
   by_cases hd:s=x%ns∧j=r
   ·
    rw [keep s i hc,at' s j hd] at hq
    exact absurd hq (nx s i hs' hi)
   ·
    rw [keep s i hc] at hh
    rw [keep s i hc,keep s j hd] at hq
    exact h.one s i j hs' hi hj hh hq
 ·
  by_cases hc:s=x%ns∧j=r
  · rw [at' s j hc];simp [markedF]
  ·
   rw [keep s j hc] at hh ⊢
   rw [h.mkd s j hs' hj hh]
   have:=nx s j hs' hj
   have:¬((x:Int)=(blk s j).line):=fun e=>this e.symm
   simp [markedF,this]
 ·
  by_cases hc:s=x%ns∧j=r
  ·
   rw [at' s j hc]
   show F i=_
   rw [hF i hi];simp [wordF]
  ·
   rw [keep s j hc] at hh ⊢
   rw [h.wd s j i hs' hj hi hh];simp [wordF]
def viewF (S:So)(k:Nat):Int × Int × Int × Int:=(S.how.getD k 0,S.next.getD k 0,S.free.getD k 0,S.began.getD k 0)
theorem view_works_other {M:MDat}{d:Nat}{S:So}{t:Int}{k j:Nat}(h:k≠j):viewF (So.works M d j S t) k=viewF S k:=by
 unfold viewF
 rw [(works_other h).1,(works_other h).2,works_next h,works_free_other h]
theorem done_view {S:So}{k:Nat}{t v f:Int}(h1:k<S.how.length)(h2:k<S.next.length)(h3:k<S.free.length):viewF (S.done k t v f) k=(0,S.next.getD k 0+1,t+1,S.began.getD k 0):=by
 unfold viewF
 have a:(S.done k t v f).how.getD k 0=0:=by show (S.how.set k 0).getD k 0=0;rw [getD_set h1,if_pos rfl]
 have b:(S.done k t v f).next.getD k 0=S.next.getD k 0+1:=by show (S.next.set k (S.next.getD k 0+1)).getD k 0=_;rw [getD_set h2,if_pos rfl]
 have c:(S.done k t v f).free.getD k 0=t+1:=by show (S.free.set k (t+1)).getD k 0=_;rw [getD_set h3,if_pos rfl]
 rw [a,b,c]
 rfl
theorem done_view_other {S:So}{k j:Nat}{t v f:Int}(h:k≠j):viewF (S.done j t v f) k=viewF S k:=by
 obtain ⟨a,b,c,e⟩:=done_all_other (S:=S) (t:=t) (v:=v) (f:=f) h
 unfold viewF
 rw [a,b,c,e]
theorem service_view {M:MDat}{d:Nat}{S:So}{B k:Nat}{t:Int}(hs:SoOk M d S B)(hk:k<M.c.cores.toNat):viewF (So.service M d S t) k=viewF S k∨(S.how.getD k 0=1∧viewF (So.service M d S t) k=(0,S.next.getD k 0+1,t+1,S.began.getD k 0)):=by
 have l1:k<S.how.length:=by rw [hs.hl];exact hk
 have l2:k<S.next.length:=by rw [hs.nl];exact hk
 have l3:k<S.free.length:=by rw [hs.fl];exact hk
 unfold So.service
 by_cases c1:servesB M.c d t=true
 ·
  rw [if_pos c1]
  unfold So.serve
  cases hq:S.queue with
  | nil=>left;rfl
  | cons q r=>
   obtain ⟨j,rfl,_,hj1⟩:=hs.qu q (by rw [hq];exact List.mem_cons_self ..)
   simp only [Int.toNat_natCast]
   split
   ·
    split
    ·
     by_cases e:k=j
     · subst e;exact Or.inr ⟨hj1,done_view l1 l2 l3⟩
     · exact Or.inl (done_view_other e)
    ·
     by_cases e:k=j
     · subst e;exact Or.inr ⟨hj1,done_view l1 l2 l3⟩
     · exact Or.inl (done_view_other e)
   ·
    split
    ·
     split
     · left;rfl
     · left;rfl
    · left;rfl
 · rw [if_neg c1];left;rfl
def FreeLe (S:So)(t:Int):Prop:=∀ k,S.free.getD k 0≤t
theorem free_done {S:So}{k:Nat}{t v f:Int}(h:FreeLe S (t+1)):FreeLe (S.done k t v f) (t+1):=fun j=>by
 show (S.free.set k (t+1)).getD j 0≤t+1
 rw [List.getD_eq_getElem?_getD,List.getElem?_set]
 have:=h j
 rw [List.getD_eq_getElem?_getD] at this
 split
 ·
  split
  · simp
  ·
   rename_i e g
   subst e
   rw [List.getElem?_eq_none (by omega)] at this
   simpa using this
 · exact this
theorem free_service {M:MDat}{d:Nat}{S:So}{t:Int}(h:FreeLe S (t+1)):FreeLe (So.service M d S t) (t+1):=by
 have hd:∀ (S':So) (k:Nat) (v f:Int),S'.free=S.free→FreeLe (S'.done k t v f) (t+1):=fun S' k v f e=>free_done (by unfold FreeLe;rw [e];exact h)
 unfold So.service
 by_cases c1:servesB M.c d t=true
 ·
  rw [if_pos c1]
  unfold So.serve
  cases hq:S.queue with
  | nil=>exact h
  | cons q r=>
   simp only
   split
   ·
    split
    · exact hd _ _ _ _ rfl
    · exact hd _ _ _ _ rfl
   ·
    split
    ·
     split
     · exact h
     · exact h
    · exact h
 · rw [if_neg c1];exact h
theorem free_works {M:MDat}{d k:Nat}{S:So}{t:Int}(h:FreeLe S (t+1)):FreeLe (So.works M d k S t) (t+1):=by
 have hd:∀ (S':So) (v f:Int),S'.free=S.free→FreeLe (S'.done k t v f) (t+1):=fun S' v f e=>free_done (by unfold FreeLe;rw [e];exact h)
 unfold So.works
 by_cases c1:S.how.getD k 0=2∧t=S.began.getD k 0+2
 · rw [if_pos c1];exact hd _ _ _ rfl
 ·
  rw [if_neg c1]
  by_cases c2:S.how.getD k 0≠0∨t<S.free.getD k 0∨((progF M d k).length:Int)≤S.next.getD k 0∨openB M.c k d t=false
  · rw [if_pos c2];exact h
  ·
   rw [if_neg c2]
   unfold So.begin
   by_cases d1:faultF M.c (opAt M d k S)≠0
   · simp only [if_pos d1];exact h
   ·
    simp only [if_neg d1]
    by_cases d2:stateF M.c k ((opAt M d k S).2.1 / M.c.line) t false S.log=0∨((opAt M d k S).1=1∧stateF M.c k ((opAt M d k S).2.1 / M.c.line) t false S.log=1)
    · simp only [if_pos d2];exact h
    ·
     simp only [if_neg d2]
     by_cases d3:(opAt M d k S).1=1
     · simp only [if_pos d3];exact hd _ _ _ rfl
     · simp only [if_neg d3];exact hd _ _ _ rfl
theorem free_worksAll {M:MDat}{d:Nat}{t:Int}:∀ (n j:Nat) (S:So),FreeLe S (t+1)→FreeLe (So.worksAll M d t n j S) (t+1)
 | 0,_,_,h=>h
 | n+1,j,S,h=>by
  unfold So.worksAll
  exact free_worksAll n (j+1) _ (free_works h)
theorem free_upto {M:MDat}{d:Nat}:∀ (T:Nat),FreeLe (So.upto M d T) T
 | 0=>fun k=>by
  have z:(List.replicate M.c.cores.toNat (0:Int)).getD k 0=0:=by
   rw [List.getD_eq_getElem?_getD,List.getElem?_replicate];split <;> rfl
  have:(So.upto M d 0).free.getD k 0=0:=z
  omega
 | t+1=>by
  have:=free_worksAll (M:=M) (d:=d) (t:=(t:Int)) M.c.cores.toNat 0 _ (free_service (M:=M) (d:=d) (S:=So.upto M d t) (fun k=>by have:=free_upto (M:=M) (d:=d) t k;omega))
  exact this
def lineF (M:MDat)(d:Nat)(e:Ev):Int:=(opOf M d e).2.1 / M.c.line
def LogEv (M:MDat)(d:Nat)(S:So):Prop:=∀ e∈S.log,(e.what=3∨e.what=4)→∃ v∈S.evs,v.core=e.core∧v.fault=0∧faultF M.c (opOf M d v)=0∧lineF M d v=e.line∧v.done=e.t
theorem state_entry {c:Cf}{core x t:Int}:∀ {lw:Bool} {log:List Ent},stateF c core x t lw log≠0→∃ e∈log,(e.what=3∨e.what=4)∧e.core=core∧e.line=x∧flushedB c e.t t=false
 | _,[],h=>by simp [stateF] at h
 | lw,e::r,h=>by
  have up:(∃ e'∈r,(e'.what=3∨e'.what=4)∧e'.core=core∧e'.line=x∧flushedB c e'.t t=false)→∃ e'∈e::r,(e'.what=3∨e'.what=4)∧e'.core=core∧e'.line=x∧flushedB c e'.t t=false:=fun ⟨e',h1,h2⟩=>⟨e',List.mem_cons_of_mem _ h1,h2⟩
  unfold stateF at h
  by_cases h0:flushedB c e.t t=true
  · rw [if_pos h0] at h;exact absurd rfl h
  rw [if_neg h0] at h
  have h0':flushedB c e.t t=false:=by simpa using h0
  split at h
  · exact absurd rfl h
  split at h
  · exact absurd rfl h
  split at h
  · exact absurd rfl h
  split at h
  · exact up (state_entry h)
  split at h
  ·
   rename_i g
   simp only [Bool.and_eq_true,beq_iff_eq] at g
   exact ⟨e,List.mem_cons_self ..,Or.inr g.1.1.1,g.1.1.2,g.1.2,h0'⟩
  split at h
  ·
   rename_i g
   simp only [Bool.and_eq_true,beq_iff_eq] at g
   exact ⟨e,List.mem_cons_self ..,Or.inl g.1.1.1.1,g.1.1.1.2,g.1.1.2,h0'⟩
  split at h
  ·
   rename_i g
   simp only [Bool.and_eq_true,Bool.or_eq_true,beq_iff_eq] at g
   exact ⟨e,List.mem_cons_self ..,g.1.1,g.1.2,g.2,h0'⟩
  · exact up (state_entry h)
theorem LogEv.told {M:MDat}{d:Nat}{S:So}{e:Ent}(h:LogEv M d S)(h3:e.what≠3)(h4:e.what≠4):LogEv M d (S.told e):=fun x hx hw=>by
 rcases List.mem_cons.1 hx with g|g
 ·
  subst g;rcases hw with hw | hw
  · exact absurd hw h3
  · exact absurd hw h4
 · exact h x g hw
theorem logev_done {M:MDat}{d:Nat}{S S':So}{k:Nat}{t v:Int}(h:LogEv M d S)(e1:S'.evs=S.evs)(e2:S'.next=S.next)(hf:faultF M.c (opAt M d k S)=0)
  (hl:∀ e∈S'.log,e∈S.log∨(e.core=k∧e.line=(opAt M d k S).2.1 / M.c.line∧e.t=t)):LogEv M d (S'.done k t v 0):=by
 have ev:(S'.done k t v 0).evs=S.evs++[⟨k,S.next.getD k 0,v,0,S'.began.getD k 0,t⟩]:=by
  show S'.evs++[⟨k,S'.next.getD k 0,v,0,S'.began.getD k 0,t⟩]=_
  rw [e1,e2]
 have op:opOf M d ⟨k,S.next.getD k 0,v,0,S'.began.getD k 0,t⟩=opAt M d k S:=by
  unfold opOf opAt
  simp only [Int.toNat_natCast]
 intro e he hw
 rw [ev]
 rcases hl e he with g|⟨g1,g2,g3⟩
 ·
  obtain ⟨x,hx,hh⟩:=h e g hw
  exact ⟨x,List.mem_append.2 (Or.inl hx),hh⟩
 ·
  refine ⟨_,List.mem_append.2 (Or.inr (List.mem_singleton.2 rfl)),g1.symm,rfl,by rw [op];exact hf,?_,g3.symm⟩
  unfold lineF
  rw [op,g2]
theorem LogEv.more {M:MDat}{d:Nat}{S S':So}(h:LogEv M d S)(e1:S'.log=S.log)(e2:∀ v∈S.evs,v∈S'.evs):LogEv M d S':=fun e he hw=>by
 rw [e1] at he
 obtain ⟨x,hx,hh⟩:=h e he hw
 exact ⟨x,e2 x hx,hh⟩
theorem logev_service {M:MDat}{d:Nat}{S:So}{B:Nat}{t:Int}(hs:SoOk M d S B)(h:LogEv M d S):LogEv M d (So.service M d S t):=by
 unfold So.service
 by_cases c1:servesB M.c d t=true
 ·
  rw [if_pos c1]
  cases hq:S.queue with
  | nil=>
   have:So.serve M d S t=S:=by unfold So.serve;rw [hq]
   rw [this];exact h
  | cons q r=>
   obtain ⟨k,rfl,hk,hk1⟩:=hs.qu q (by rw [hq];exact List.mem_cons_self ..)
   have hf:=hs.w1 k hk hk1
   rcases ho:opAt M d k S with ⟨okd,oad,ovl⟩
   by_cases hw:0≤whereF (oad / M.c.line) S.log
   ·
    by_cases hkd:okd=1
    ·
     subst hkd
     rw [serve_store hq ho rfl hw]
     refine logev_done h rfl rfl hf (fun e he=>?_)
     rw [ho]
     rcases List.mem_cons.1 he with g|g
     · subst g;exact Or.inr ⟨rfl,rfl,rfl⟩
     ·
      rcases List.mem_cons.1 g with g | g
      · subst g;exact Or.inr ⟨rfl,rfl,rfl⟩
      · exact Or.inl g
    ·
     rw [serve_load hq ho hkd rfl hw]
     refine logev_done h rfl rfl hf (fun e he=>?_)
     rw [ho]
     rcases List.mem_cons.1 he with g|g
     · subst g;exact Or.inr ⟨rfl,rfl,rfl⟩
     · exact Or.inl g
   ·
    obtain ⟨way,hcw⟩:∃ way,chosenF M.c (M.c.ways.count (d:Int)) (oad / M.c.line%M.c.sets) S.log=way:=⟨_,rfl⟩
    obtain ⟨y,hy⟩:∃ y,liesF M.c (oad / M.c.line%M.c.sets) way S.log=y:=⟨_,rfl⟩
    by_cases h0:0≤y
    ·
     cases hm:markedF y S.log with
     | true=>rw [serve_gone hq ho rfl hw hcw hy h0 hm];exact h.told (by simp) (by simp)
     | false=>rw [serve_both hq ho rfl hw hcw hy h0 hm];exact (h.told (by simp) (by simp)).told (by simp) (by simp)
    · rw [serve_fill hq ho rfl hw hcw hy h0];exact h.told (by simp) (by simp)
 · rw [if_neg c1];exact h
theorem logev_works {M:MDat}{d k:Nat}{S:So}{t:Int}(h:LogEv M d S):LogEv M d (So.works M d k S t):=by
 unfold So.works
 by_cases c1:S.how.getD k 0=2∧t=S.began.getD k 0+2
 ·
  rw [if_pos c1]
  exact h.more rfl (fun v hv=>List.mem_append.2 (Or.inl hv))
 ·
  rw [if_neg c1]
  by_cases c2:S.how.getD k 0≠0∨t<S.free.getD k 0∨((progF M d k).length:Int)≤S.next.getD k 0∨openB M.c k d t=false
  · rw [if_pos c2];exact h
  ·
   rw [if_neg c2]
   unfold So.begin
   by_cases d1:faultF M.c (opAt M d k S)≠0
   · simp only [if_pos d1];exact h
   ·
    simp only [if_neg d1]
    have hf:faultF M.c (opAt M d k S)=0:=by omega
    by_cases d2:stateF M.c k ((opAt M d k S).2.1 / M.c.line) t false S.log=0∨((opAt M d k S).1=1∧stateF M.c k ((opAt M d k S).2.1 / M.c.line) t false S.log=1)
    · simp only [if_pos d2];exact h
    ·
     simp only [if_neg d2]
     by_cases d3:(opAt M d k S).1=1
     ·
      simp only [if_pos d3]
      refine logev_done (S:=S) h rfl rfl hf (fun e he=>?_)
      rcases List.mem_cons.1 he with g|g
      · subst g;exact Or.inr ⟨rfl,rfl,rfl⟩
      · exact Or.inl g
     ·
      simp only [if_neg d3]
      exact logev_done (S:=S) h rfl rfl hf (fun e he=>Or.inl he)
theorem logev_worksAll {M:MDat}{d:Nat}{t:Int}:∀ (n j:Nat) (S:So),LogEv M d S→LogEv M d (So.worksAll M d t n j S)
 | 0,_,_,h=>h
 | n+1,j,S,h=>by
  unfold So.worksAll
  exact logev_worksAll n (j+1) _ (logev_works h)
theorem logev_upto {M:MDat}{d:Nat}(hc:chk M.c=0):∀ (T:Nat),T≤10000→LogEv M d (So.upto M d T)
 | 0,_=>fun e he=>by simp [So.upto,So.start] at he
 | t+1,h=>logev_worksAll _ _ _ (logev_service (SoOk.upto (M:=M) (d:=d) hc t (by omega)) (logev_upto hc t (by omega)))
theorem same_turn {c:Cf}{s t:Int}(R:Right c)(h1:s%c.quantum<c.quantum-c.flush)(h2:s≤t)(h:flushedB c s t=false):s / c.quantum=t / c.quantum:=by
 have q1:=R.q1
 have w0:=R.w0
 have f1:=R.f1
 have e:=Int.mul_ediv_add_emod s c.quantum
 rw [Int.mul_comm] at e
 have lt:t<flushAt c s:=by
  unfold flushedB at h
  by_cases g:t<flushAt c s
  · exact g
  ·
   rw [if_neg g,if_pos (by unfold flushAt;omega)] at h
   exact absurd h (by simp)
 unfold flushAt at lt
 have e2:(s / c.quantum+1)*c.quantum=s / c.quantum*c.quantum+c.quantum:=by rw [Int.add_mul,Int.one_mul]
 have l1:s / c.quantum≤t / c.quantum:=Int.ediv_le_ediv (by omega) h2
 have l2:t / c.quantum<s / c.quantum+1:=Int.ediv_lt_of_lt_mul (by omega) (by omega)
 omega
theorem flushed_iff {c:Cf}{s t:Int}(R:Right c):flushedB c s t=true↔∃ q:Int,s<q*c.quantum+c.quantum-c.flush∧q*c.quantum+c.quantum-c.flush≤t:=by
 have q1:=R.q1
 have w0:=R.w0
 have f1:=R.f1
 have e:=Int.mul_ediv_add_emod s c.quantum
 have r0:=Int.emod_nonneg s (show c.quantum≠0 by omega)
 have r1:=Int.emod_lt_of_pos s (show 0<c.quantum by omega)
 rw [Int.mul_comm] at e
 unfold flushedB flushAt
 constructor
 ·
  intro h
  by_cases g1:t<s / c.quantum*c.quantum+c.quantum-c.flush
  · rw [if_pos g1] at h;exact absurd h (by simp)
  ·
   rw [if_neg g1] at h
   by_cases g2:s<s / c.quantum*c.quantum+c.quantum-c.flush
   · exact ⟨s / c.quantum,g2,by omega⟩
   ·
    rw [if_neg g2] at h
    have:=of_decide_eq_true h
    refine ⟨s / c.quantum+1,?_,?_⟩
    · rw [Int.add_mul,Int.one_mul];omega
    · rw [Int.add_mul,Int.one_mul];omega
 ·
  rintro ⟨q,h1,h2⟩
  have hq:s / c.quantum≤q:=by
   by_cases g:q<s / c.quantum
   ·
    have:(q+1)*c.quantum≤s / c.quantum*c.quantum:=Int.mul_le_mul_of_nonneg_right (by omega) (by omega)
    rw [Int.add_mul,Int.one_mul] at this
    omega
   · omega
  have m:s / c.quantum*c.quantum≤q*c.quantum:=Int.mul_le_mul_of_nonneg_right hq (by omega)
  rw [if_neg (by omega)]
  by_cases g2:s<s / c.quantum*c.quantum+c.quantum-c.flush
  · rw [if_pos g2]
  ·
   rw [if_neg g2]
   refine decide_eq_true ?_
   have:q≠s / c.quantum:=fun e=>by rw [e] at h1;exact g2 h1
   have:(s / c.quantum+1)*c.quantum≤q*c.quantum:=Int.mul_le_mul_of_nonneg_right (by omega) (by omega)
   rw [Int.add_mul,Int.one_mul] at this
   omega
theorem flushed_later {c:Cf}{s t t':Int}(R:Right c)(h2:t≤t')(h:flushedB c t t'=false):flushedB c s t'=flushedB c s t:=by
 cases g:flushedB c s t with
 | true=>
  obtain ⟨q,a,b⟩:=(flushed_iff R).1 g
  exact (flushed_iff R).2 ⟨q,a,by omega⟩
 | false=>
  cases g2:flushedB c s t' with
  | false=>rfl
  | true=>
   obtain ⟨q,a,b⟩:=(flushed_iff R).1 g2
   exfalso
   by_cases e:q*c.quantum+c.quantum-c.flush≤t
   ·
    have:=(flushed_iff R).2 ⟨q,a,e⟩
    rw [g] at this;exact absurd this (by simp)
   ·
    have:=(flushed_iff R).2 ⟨q,(by omega:t<_),b⟩
    rw [h] at this;exact absurd this (by simp)
theorem state_later {c:Cf}{core x t t':Int}(R:Right c)(h2:t≤t')(h:flushedB c t t'=false):∀ (lw:Bool) (log:List Ent),stateF c core x t' lw log=stateF c core x t lw log
 | _,[]=>rfl
 | lw,e::r=>by
  have hr:=fun lw=>state_later (core:=core) (x:=x) R h2 h lw r
  unfold stateF
  rw [flushed_later R h2 h,hr,hr]
def NearR (c:Cf)(nn nc:Nat)(nr:Nat→Nat→Cp)(d:Int)(t:Int)(L:List Ent):Prop:=
 ∀ k x:Nat,k<nc→stateN nn nr k d x=stateF c k x t false L
theorem stateN_put (nn:Nat)(nr:Nat→Nat→Cp)(k:Nat)(d:Int)(x:Nat)(s:Int)(j:Nat)(e:Int)(y:Nat) :
  stateN nn (putN nn nr k d x s) j e y=if j=k∧y%nn=x%nn then (if d=e∧x=y then s else 0) else stateN nn nr j e y:=by
 unfold stateN putN up2
 by_cases h:j=k∧y%nn=x%nn
 ·
  rw [if_pos h,if_pos h]
  simp only
  by_cases g:d=e∧x=y
  · rw [if_pos g,if_pos ⟨g.1,by rw [g.2]⟩]
  · rw [if_neg g,if_neg (fun q=>g ⟨q.1,by omega⟩)]
 · rw [if_neg h,if_neg h]
theorem stateN_dropAll (p:Nat→Bool)(nn:Nat)(nr:Nat→Nat→Cp)(d:Int)(x j:Nat)(e:Int)(y:Nat) :
  stateN nn (dropAllN p nn nr d x) j e y=if p j=true∧e=d∧y=x then 0 else stateN nn nr j e y:=by
 by_cases h:p j=true∧y%nn=x%nn∧stateN nn nr j d x≠0
 ·
  have e1:dropAllN p nn nr d x j (y%nn)=cpE:=by unfold dropAllN;rw [if_pos h]
  have l0:stateN nn (dropAllN p nn nr d x) j e y=0:=by
   conv=>lhs;unfold stateN
   rw [e1]
   split
   · rfl
   · rfl
  rw [l0]
  split
  · rfl
  ·
   next g=>
   obtain ⟨h1,h2,h3⟩:=h
   unfold stateN at h3 ⊢
   rw [h2]
   by_cases q:(nr j (x%nn)).dom=d∧(nr j (x%nn)).line=x
   · rw [if_neg (fun q2=>g ⟨h1,q2.1.symm.trans q.1,by omega⟩)]
   · rw [if_neg q] at h3;exact absurd rfl h3
 ·
  have e1:dropAllN p nn nr d x j (y%nn)=nr j (y%nn):=by unfold dropAllN;rw [if_neg h]
  have l0:stateN nn (dropAllN p nn nr d x) j e y=stateN nn nr j e y:=by
   unfold stateN
   rw [e1]
  rw [l0]
  split
  ·
   next g=>
   obtain ⟨g1,rfl,rfl⟩:=g
   exact Classical.byContradiction fun q=>h ⟨g1,rfl,q⟩
  · rfl
theorem stateN_shareAll (p:Nat→Bool)(nn:Nat)(nr:Nat→Nat→Cp)(d:Int)(x j:Nat)(e:Int)(y:Nat) :
  stateN nn (shareAllN p nn nr d x) j e y=if p j=true∧e=d∧y=x∧stateN nn nr j d x≠0 then 1 else stateN nn nr j e y:=by
 by_cases h:p j=true∧y%nn=x%nn∧stateN nn nr j d x≠0
 ·
  have e1:shareAllN p nn nr d x j (y%nn)=⟨d,x,1⟩:=by unfold shareAllN;rw [if_pos h]
  obtain ⟨h1,h2,h3⟩:=h
  have l0:stateN nn (shareAllN p nn nr d x) j e y=if d=e∧(x:Int)=y then 1 else 0:=by
   conv=>lhs;unfold stateN
   rw [e1]
  rw [l0]
  by_cases g:e=d∧y=x
  · rw [if_pos ⟨g.1.symm,by rw [g.2]⟩,if_pos ⟨h1,g.1,g.2,h3⟩]
  ·
   rw [if_neg (fun q=>g ⟨q.1.symm,by omega⟩),if_neg (fun q=>g ⟨q.2.1,q.2.2.1⟩)]
   unfold stateN at h3 ⊢
   rw [h2]
   by_cases q:(nr j (x%nn)).dom=d∧(nr j (x%nn)).line=x
   · rw [if_neg (fun q2=>g ⟨q2.1.symm.trans q.1,by omega⟩)]
   · rw [if_neg q] at h3;exact absurd rfl h3
 ·
  have e1:shareAllN p nn nr d x j (y%nn)=nr j (y%nn):=by unfold shareAllN;rw [if_neg h]
  have l0:stateN nn (shareAllN p nn nr d x) j e y=stateN nn nr j e y:=by
   unfold stateN
   rw [e1]
  rw [l0,if_neg (fun g=>h ⟨g.1,by rw [g.2.2.1],g.2.2.2⟩)]
theorem flushed_self {c:Cf}(R:Right c)(t:Int):flushedB c t t=false:=by
 have q1:=R.q1
 have f1:=R.f1
 have w0:=R.w0
 have e1:=Int.mul_ediv_add_emod t c.quantum
 have l1:=Int.emod_lt_of_pos t (show 0<c.quantum by omega)
 have e2:t / c.quantum*c.quantum=c.quantum*(t / c.quantum):=Int.mul_comm _ _
 unfold flushedB flushAt
 split
 · rfl
 ·
  have:¬(t / c.quantum*c.quantum+c.quantum-c.flush+c.quantum≤t):=by omega
  simp [this]
theorem stateF_fill {c:Cf}{k x t:Int}{lw:Bool}{L:List Ent}{e:Ent}(hf:flushedB c e.t t=false)(h:e.what=1):stateF c k x t lw (e::L)=stateF c k x t lw L:=by
 conv=>lhs;unfold stateF
 simp [hf,h]
theorem stateF_gone {c:Cf}{k x t:Int}{lw:Bool}{L:List Ent}{e:Ent}(hf:flushedB c e.t t=false)(h:e.what=2):stateF c k x t lw (e::L)=if x=e.line then 0 else stateF c k x t lw L:=by
 conv=>lhs;unfold stateF
 by_cases g:x=e.line
 · simp [hf,h,g]
 ·
  have g':¬e.line=x:=fun q=>g q.symm
  simp [hf,h,g,g']
theorem stateF_store {c:Cf}{k x t:Int}{lw:Bool}{L:List Ent}{e:Ent}(hf:flushedB c e.t t=false)(h:e.what=4):stateF c k x t lw (e::L)=if k=e.core∧x=e.line then (if lw=true then 1 else 3) else stateF c k x t lw L:=by
 conv=>lhs;unfold stateF
 by_cases g:k=e.core∧x=e.line
 ·
  obtain ⟨rfl,rfl⟩:=g
  cases lw <;> simp [hf,h]
 ·
  rw [if_neg g]
  by_cases g1:e.core=k
  ·
   have g2:¬e.line=x:=fun q=>g ⟨g1.symm,q.symm⟩
   simp [hf,h,g2]
  · simp [hf,h,g1]
theorem stateF_hand {c:Cf}{k x t:Int}{lw:Bool}{L:List Ent}{e:Ent}(hf:flushedB c e.t t=false)(h:e.what=3):stateF c k x t lw (e::L) =
  if k=e.core then (if x=e.line then (if e.lo=true∧lw=false then 2 else 1) else if e.line%c.near=x%c.near then 0 else stateF c k x t lw L)
  else if x=e.line then (if e.st=true then 0 else stateF c k x t true L) else stateF c k x t lw L:=by
 conv=>lhs;unfold stateF
 by_cases g1:k=e.core
 ·
  subst g1
  rw [if_pos rfl]
  by_cases g2:x=e.line
  ·
   subst g2
   rw [if_pos rfl]
   cases e.lo <;> cases lw <;> simp [hf,h]
  ·
   have g2':¬e.line=x:=fun q=>g2 q.symm
   rw [if_neg g2]
   by_cases g3:e.line%c.near=x%c.near
   · simp [hf,h,g2',g3]
   · simp [hf,h,g2',g3]
 ·
  have g1':¬e.core=k:=fun q=>g1 q.symm
  rw [if_neg g1]
  by_cases g2:x=e.line
  ·
   subst g2
   rw [if_pos rfl]
   cases e.st <;> simp [hf,h,g1']
  ·
   have g2':¬e.line=x:=fun q=>g2 q.symm
   rw [if_neg g2]
   simp [hf,h,g2',g1']
theorem stateF_lw {c:Cf}{k x t:Int}:∀ (L:List Ent),stateF c k x t true L=if stateF c k x t false L=0 then 0 else 1
 | []=>rfl
 | e::L=>by
  have ih:=stateF_lw (c:=c) (k:=k) (x:=x) (t:=t) L
  have dbl:(if stateF c k x t true L=0 then (0:Int) else 1)=stateF c k x t true L:=by
   by_cases q:stateF c k x t false L=0
   · rw [ih,if_pos q];rfl
   · rw [ih,if_neg q];rfl
  by_cases h0:flushedB c e.t t=true
  · unfold stateF;rw [if_pos h0,if_pos h0];rfl
  ·
   have h0':flushedB c e.t t=false:=by simpa using h0
   by_cases h2:e.what=2
   ·
    rw [stateF_gone h0' h2,stateF_gone h0' h2]
    split
    · rfl
    · exact ih
   ·
    by_cases h3:e.what=3
    ·
     rw [stateF_hand h0' h3,stateF_hand h0' h3]
     split
     ·
      split
      · cases e.lo <;> simp
      ·
       split
       · rfl
       · exact ih
     ·
      split
      ·
       split
       · rfl
       · exact dbl.symm
      · exact ih
    ·
     by_cases h4:e.what=4
     ·
      rw [stateF_store h0' h4,stateF_store h0' h4]
      split
      · simp
      · exact ih
     ·
      have skip:∀ lw,stateF c k x t lw (e::L)=stateF c k x t lw L:=fun lw=>by
       conv=>lhs;unfold stateF
       simp [h0',h2,h3,h4]
      rw [skip,skip];exact ih
theorem NearR.fill {c:Cf}{nn nc:Nat}{nr:Nat→Nat→Cp}{d t:Int}{L:List Ent}(R:Right c)(h:NearR c nn nc nr d t L){e:Ent}(ht:e.t=t)(hw:e.what=1):NearR c nn nc nr d t (e::L):=fun k x hk=>by
 rw [stateF_fill (by rw [ht];exact flushed_self R t) hw];exact h k x hk
theorem NearR.gone {c:Cf}{nn nc:Nat}{nr:Nat→Nat→Cp}{d t:Int}{L:List Ent}(R:Right c)(h:NearR c nn nc nr d t L){e:Ent}{y:Nat}(ht:e.t=t)(hw:e.what=2)(hy:e.line=y):NearR c nn nc (dropAllN (fun j=>decide (j<nc)) nn nr d y) d t (e::L):=fun k x hk=>by
 rw [stateF_gone (by rw [ht];exact flushed_self R t) hw,stateN_dropAll,hy]
 by_cases g:x=y
 · rw [if_pos ⟨by simp [hk],rfl,g⟩,if_pos (by rw [g])]
 · rw [if_neg (fun q=>g q.2.2),if_neg (by omega)];exact h k x hk
theorem near_mod {c:Cf}{nn x y:Nat}(hn:(nn:Int)=c.near):((x:Int)%c.near=(y:Int)%c.near)↔x%nn=y%nn:=by
 rw [← hn];omega
theorem NearR.hitStore {c:Cf}{nn nc:Nat}{nr:Nat→Nat→Cp}{d t:Int}{L:List Ent}(R:Right c)(h:NearR c nn nc nr d t L){e:Ent}{k y:Nat}(ht:e.t=t)(hw:e.what=4)(hk:e.core=k)(hy:e.line=y)(hs:stateN nn nr k d y≠0):NearR c nn nc (putN nn nr k d y 3) d t (e::L):=fun j x hj=>by
 rw [stateF_store (by rw [ht];exact flushed_self R t) hw,stateN_put,hk,hy]
 by_cases g:j=k
 ·
  subst g
  by_cases g2:x=y
  ·
   subst g2
   rw [if_pos ⟨rfl,rfl⟩,if_pos ⟨rfl,rfl⟩,if_pos ⟨rfl,rfl⟩];rfl
  ·
   rw [if_neg (fun q:(j:Int)=j∧(x:Int)=y=>g2 (by omega))]
   by_cases g3:x%nn=y%nn
   ·
    rw [if_pos ⟨rfl,g3⟩,if_neg (fun q=>g2 q.2.symm),← h j x hj]
    unfold stateN at hs ⊢
    rw [g3]
    by_cases q:(nr j (y%nn)).dom=d∧(nr j (y%nn)).line=y
    · rw [if_neg (fun q2=>g2 (by omega))]
    · rw [if_neg q] at hs;exact absurd rfl hs
   · rw [if_neg (fun q=>g3 q.2)];exact h j x hj
 · rw [if_neg (fun q=>g q.1),if_neg (fun q=>g (by omega))];exact h j x hj
theorem NearR.handStore {c:Cf}{nn nc:Nat}{nr:Nat→Nat→Cp}{d t:Int}{L:List Ent}(R:Right c)(h:NearR c nn nc nr d t L)(hn:(nn:Int)=c.near){e f:Ent}{k y:Nat}(ht:e.t=t)(hw:e.what=3)(hst:e.st=true)(hk:e.core=k)(hy:e.line=y)(ft:f.t=t)(fw:f.what=4)(fk:f.core=k)(fy:f.line=y) :
  NearR c nn nc (putN nn (dropAllN (fun j=>decide (j<nc∧j≠k)) nn nr d y) k d y 3) d t (f::e::L):=fun j x hj=>by
 rw [stateF_store (by rw [ft];exact flushed_self R t) fw,stateF_hand (by rw [ht];exact flushed_self R t) hw,stateN_put,stateN_dropAll,fk,fy,hk,hy,hst]
 by_cases g:j=k
 ·
  subst g
  rw [if_pos rfl]
  by_cases g2:x=y
  ·
   subst g2
   rw [if_pos ⟨rfl,rfl⟩,if_pos ⟨rfl,rfl⟩,if_pos ⟨rfl,rfl⟩];rfl
  ·
   rw [if_neg (fun q:(j:Int)=j∧(x:Int)=y=>g2 (by omega)),if_neg (fun q:(x:Int)=y=>g2 (by omega))]
   by_cases g3:x%nn=y%nn
   · rw [if_pos ⟨rfl,g3⟩,if_neg (fun q=>g2 q.2.symm),if_pos ((near_mod hn).2 g3.symm)]
   · rw [if_neg (fun q=>g3 q.2),if_neg (fun q=>g2 q.2.2),if_neg (fun q=>g3 ((near_mod hn).1 q).symm)];exact h j x hj
 ·
  have gi:¬((j:Int)=k):=by omega
  rw [if_neg (fun q:j=k∧x%nn=y%nn=>g q.1),if_neg (fun q:(j:Int)=k∧(x:Int)=y=>gi q.1),if_neg gi]
  by_cases g2:x=y
  ·
   subst g2
   rw [if_pos ⟨by simp [hj,g],rfl,rfl⟩,if_pos rfl,if_pos rfl]
  · rw [if_neg (fun q=>g2 q.2.2),if_neg (by omega)];exact h j x hj
theorem found_lone {c:Cf}{nn nc:Nat}{nr:Nat→Nat→Cp}{d t:Int}{L:List Ent}(h:NearR c nn nc nr d t L)(k x:Nat):foundN nn nr k d x nc=!loneF c k x t L nc 0:=by
 have key:∀ n i:Nat,i+n=nc→(loneF c k x t L n i=true↔∀ j,i≤j→j<nc→¬(j≠k∧stateN nn nr j d x≠0)):=by
  intro n
  induction n with
  | zero=>intro i hi;exact ⟨fun _ j h1 h2=>absurd h2 (by omega),fun _=>rfl⟩
  | succ n ih=>
   intro i hi
   unfold loneF
   have hcast:((i:Int)+1)=((i+1:Nat):Int):=by omega
   by_cases g:(i:Int)≠k∧stateF c i x t false L≠0
   ·
    rw [if_pos g]
    refine ⟨fun q=>absurd q (by decide),fun q=>absurd ⟨?_,?_⟩ (q i (Nat.le_refl _) (by omega))⟩
    · omega
    · rw [h i x (by omega)];exact g.2
   ·
    rw [if_neg g,hcast,ih (i+1) (by omega)]
    refine ⟨fun q j h1 h2=>?_,fun q j h1 h2=>q j (by omega) h2⟩
    by_cases e:j=i
    ·
     subst e
     intro w
     exact g ⟨by omega,by rw [← h j x h2];exact w.2⟩
    · exact q j (by omega) h2
 have key2:∀ n:Nat,(foundN nn nr k d x n=true↔∃ j,j<n∧(j≠k∧stateN nn nr j d x≠0)):=by
  intro n
  induction n with
  | zero=>exact ⟨fun q=>absurd q (by unfold foundN;decide),fun ⟨j,h1,_⟩=>absurd h1 (by omega)⟩
  | succ n ih=>
   unfold foundN
   rw [Bool.or_eq_true,ih,Bool.and_eq_true,decide_eq_true_eq,decide_eq_true_eq]
   constructor
   ·
    rintro (⟨j,h1,h2⟩ | h2)
    · exact ⟨j,by omega,h2⟩
    · exact ⟨n,by omega,h2⟩
   ·
    rintro ⟨j,h1,h2⟩
    by_cases e:j=n
    · subst e;exact Or.inr h2
    · exact Or.inl ⟨j,by omega,h2⟩
 have k1:=key nc 0 (by omega)
 have k2:=key2 nc
 have z:((0:Nat):Int)=0:=rfl
 rw [z] at k1
 cases hl:loneF c k x t L nc 0 with
 | true=>
  cases hf:foundN nn nr k d x nc with
  | false=>rfl
  | true=>
   obtain ⟨j,h1,h2⟩:=k2.1 hf
   exact absurd h2 (k1.1 hl j (Nat.zero_le _) h1)
 | false=>
  cases hf:foundN nn nr k d x nc with
  | true=>rfl
  | false=>
   have:loneF c k x t L nc 0=true:=k1.2 (fun j _ h1 h2=>by
    have:=k2.2 ⟨j,h1,h2⟩
    rw [hf] at this;cases this)
   rw [hl] at this;cases this
theorem NearR.handLoad {c:Cf}{nn nc:Nat}{nr:Nat→Nat→Cp}{d t:Int}{L:List Ent}(R:Right c)(h:NearR c nn nc nr d t L)(hn:(nn:Int)=c.near){e:Ent}{k y:Nat}{a:Int}(ht:e.t=t)(hw:e.what=3)(hst:e.st=false)(hk:e.core=k)(hy:e.line=y)(hlo:e.lo=(loneF c k y t L nc 0&&decide (a<c.priv))) :
  NearR c nn nc (putN nn (shareAllN (fun j=>decide (j<nc∧j≠k)) nn nr d y) k d y (if foundN nn nr k d y nc=true∨c.priv≤a then 1 else 2)) d t (e::L):=fun j x hj=>by
 have hval:(if foundN nn nr k d y nc=true∨c.priv≤a then (1:Int) else 2)=if e.lo=true∧false=false then 2 else 1:=by
  rw [found_lone h,hlo]
  by_cases g:a<c.priv
  ·
   have g':¬c.priv≤a:=by omega
   cases loneF c k y t L nc 0 <;> simp [g,g']
  ·
   have g':c.priv≤a:=by omega
   simp [g,g']
 rw [hval,stateF_hand (by rw [ht];exact flushed_self R t) hw,stateN_put,stateN_shareAll,hk,hy,hst]
 by_cases g:j=k
 ·
  subst g
  rw [if_pos rfl]
  by_cases g2:x=y
  ·
   subst g2
   rw [if_pos ⟨rfl,rfl⟩,if_pos ⟨rfl,rfl⟩,if_pos rfl]
  ·
   rw [if_neg (fun q:(x:Int)=y=>g2 (by omega))]
   by_cases g3:x%nn=y%nn
   · rw [if_pos ⟨rfl,g3⟩,if_neg (fun q=>g2 q.2.symm),if_pos ((near_mod hn).2 g3.symm)]
   · rw [if_neg (fun q=>g3 q.2),if_neg (fun q=>g2 q.2.2.1),if_neg (fun q=>g3 ((near_mod hn).1 q).symm)];exact h j x hj
 ·
  have gi:¬((j:Int)=k):=by omega
  rw [if_neg (fun q=>g q.1),if_neg gi]
  by_cases g2:x=y
  ·
   subst g2
   rw [if_pos rfl,if_neg (show ¬(false=true) by decide),stateF_lw,← h j x hj]
   by_cases g4:stateN nn nr j d x=0
   · rw [if_neg (fun q:decide (j<nc∧j≠k)=true∧d=d∧x=x∧stateN nn nr j d x≠0=>q.2.2.2 g4),if_pos g4];exact g4
   · rw [if_pos ⟨by simp [hj,g],rfl,rfl,g4⟩,if_neg g4]
  · rw [if_neg (fun q=>g2 q.2.2.1),if_neg (by omega)];exact h j x hj
theorem NearR.otherPut {c:Cf}{nn nc:Nat}{nr:Nat→Nat→Cp}{d t:Int}{L:List Ent}(h:NearR c nn nc nr d t L){e:Int}(he:e≠d){k:Nat}(y:Nat)(s:Int)(hz:∀ x:Nat,stateF c k x t false L=0):NearR c nn nc (putN nn nr k e y s) d t L:=fun j x hj=>by
 rw [stateN_put]
 by_cases g:j=k∧x%nn=y%nn
 · rw [if_pos g,if_neg (fun q=>he q.1),g.1,hz]
 · rw [if_neg g];exact h j x hj
theorem NearR.otherDrop {c:Cf}{nn nc:Nat}{nr:Nat→Nat→Cp}{d t:Int}{L:List Ent}(h:NearR c nn nc nr d t L){e:Int}(he:e≠d)(p:Nat→Bool)(y:Nat):NearR c nn nc (dropAllN p nn nr e y) d t L:=fun j x hj=>by
 rw [stateN_dropAll,if_neg (fun q=>he q.2.1.symm)];exact h j x hj
theorem NearR.otherShare {c:Cf}{nn nc:Nat}{nr:Nat→Nat→Cp}{d t:Int}{L:List Ent}(h:NearR c nn nc nr d t L){e:Int}(he:e≠d)(p:Nat→Bool)(y:Nat):NearR c nn nc (shareAllN p nn nr e y) d t L:=fun j x hj=>by
 rw [stateN_shareAll,if_neg (fun q=>he q.2.1.symm)];exact h j x hj
theorem flush_none {c:Cf}(R:Right c){t:Int}(h:flushesB c (t+1)=false):flushedB c t (t+1)=false:=by
 cases hf:flushedB c t (t+1) with
 | false=>rfl
 | true=>
  obtain ⟨q,h1,h2⟩:=(flushed_iff R).1 hf
  have q1:=R.q1
  have f1:=R.f1
  have w0:=R.w0
  have e:t+1=c.quantum-c.flush+c.quantum*q:=by
   have:q*c.quantum=c.quantum*q:=Int.mul_comm _ _
   omega
  have:(t+1)%c.quantum=c.quantum-c.flush:=by
   rw [e,Int.add_mul_emod_self_left,Int.emod_eq_of_lt (by omega) (by omega)]
  simp [flushesB,this] at h
theorem flush_all {c:Cf}(R:Right c){s t:Int}(h:flushesB c t=true)(hs:s<t):flushedB c s t=true:=by
 refine (flushed_iff R).2 ⟨t / c.quantum,?_,?_⟩
 ·
  have e1:=Int.mul_ediv_add_emod t c.quantum
  have e2:t / c.quantum*c.quantum=c.quantum*(t / c.quantum):=Int.mul_comm _ _
  simp only [flushesB,decide_eq_true_eq] at h
  omega
 ·
  have e1:=Int.mul_ediv_add_emod t c.quantum
  have e2:t / c.quantum*c.quantum=c.quantum*(t / c.quantum):=Int.mul_comm _ _
  simp only [flushesB,decide_eq_true_eq] at h
  omega
theorem stateF_flushed {c:Cf}{k x t:Int}:∀ {lw:Bool} {L:List Ent},(∀ e∈L,flushedB c e.t t=true)→stateF c k x t lw L=0
 | _,[],_=>rfl
 | _,e::L,h=>by
  unfold stateF
  rw [if_pos (h e (List.mem_cons_self ..))]
theorem NearR.next {c:Cf}{nn nc:Nat}{nr:Nat→Nat→Cp}{d t:Int}{L:List Ent}(R:Right c)(h:NearR c nn nc nr d t L)(hl:∀ e∈L,e.t≤t):NearR c nn nc (if flushesB c (t+1)=true then (fun _ _=>cpE) else nr) d (t+1) L:=by
 by_cases g:flushesB c (t+1)=true
 ·
  rw [if_pos g]
  intro k x _
  rw [stateF_flushed (fun e he=>flush_all R g (by have:=hl e he;omega))]
  unfold stateN
  split
  · rfl
  · rfl
 ·
  rw [if_neg g]
  have g':flushesB c (t+1)=false:=by simpa using g
  intro k x hk
  rw [state_later R (by omega) (flush_none R g')]
  exact h k x hk
theorem digit_eq {p q n i j:Int}(hn:0<n)(i0:0≤i)(i1:i<n)(j0:0≤j)(j1:j<n)(h:p*n+i=q*n+j):p=q∧i=j:=by
 have e1:(i+p*n) / n=p:=by rw [Int.add_mul_ediv_right _ _ (by omega),Int.ediv_eq_zero_of_lt i0 i1];omega
 have e2:(j+q*n) / n=q:=by rw [Int.add_mul_ediv_right _ _ (by omega),Int.ediv_eq_zero_of_lt j0 j1];omega
 have:p=q:=by rw [← e1,← e2];congr 1;omega
 subst this
 exact ⟨rfl,by omega⟩
theorem way_congr {b b':Nat→Bk}{n:Nat}{x:Int}(h:∀ j,(b j).line=(b' j).line):wayF b n x=wayF b' n x:=by
 unfold wayF
 congr 1
 funext j
 rw [h j]
theorem FarR.store {c:Cf}{ns wn ln:Nat}{first:Int→Int}{blk:Nat→Nat→Bk}{L:List Ent}(h:FarR c ns wn ln first blk L)(h0:0<ns){e:Ent}{x r i:Nat}(hr:r<wn)(hx:(blk (x%ns) r).line=x)(hi:i<ln)(hw:e.what=4)(hel:e.line=x)(hea:e.addr=(x:Int)*ln+i) :
  FarR c ns wn ln first (up2 blk (x%ns) r ⟨x,true,up1 (blk (x%ns) r).wd i e.val⟩) (e::L):=by
 have hs:x%ns<ns:=Nat.mod_lt _ h0
 have keep:∀ s j,¬(s=x%ns∧j=r)→up2 blk (x%ns) r ⟨x,true,up1 (blk (x%ns) r).wd i e.val⟩ s j=blk s j:=fun s j hn=>by simp [up2,hn]
 have lne:∀ s j,(up2 blk (x%ns) r ⟨x,true,up1 (blk (x%ns) r).wd i e.val⟩ s j).line=(blk s j).line:=fun s j=>by
  by_cases hc:s=x%ns∧j=r
  ·
   obtain ⟨rfl,rfl⟩:=hc
   have:up2 blk (x%ns) j ⟨x,true,up1 (blk (x%ns) j).wd i e.val⟩ (x%ns) j=⟨x,true,up1 (blk (x%ns) j).wd i e.val⟩:=by simp [up2]
   rw [this,hx]
  · rw [keep s j hc]
 have n1:e.what≠1:=by omega
 have n2:e.what≠2:=by omega
 have nx:∀ s j,s<ns→j<wn→¬(s=x%ns∧j=r)→(blk s j).line≠x:=fun s j hs' hj hn q=>by
  have h1:=h.set s j hs' hj (by omega)
  rw [q] at h1
  have h2:s=x%ns:=by omega
  subst h2
  exact hn ⟨rfl,h.one _ _ _ hs' hj hr (by omega) (q.trans hx.symm)⟩
 refine ⟨fun s j hs' hj=>by rw [lne,liesF_far n1 n2];exact h.line s j hs' hj,fun y=>by rw [whereF_far n1 n2,h.wh y];exact way_congr fun j=>(lne _ j).symm,fun s j hs' hj=>by rw [lne];exact h.low s j hs' hj,fun s j hs' hj hh=>by rw [lne] at hh ⊢;exact h.set s j hs' hj hh,fun s a b hs' ha hb hh he=>by rw [lne] at hh he;rw [lne] at he;exact h.one s a b hs' ha hb hh he,fun s j hs' hj hh=>?_,fun s j i' hs' hj hi' hh=>?_⟩
 ·
  by_cases hc:s=x%ns∧j=r
  ·
   obtain ⟨rfl,rfl⟩:=hc
   simp [up2,markedF,hw,hel]
  ·
   rw [keep s j hc] at hh ⊢
   rw [h.mkd s j hs' hj hh]
   have:=nx s j hs' hj hc
   have:¬(e.line=(blk s j).line):=fun q=>this (q.symm.trans hel)
   simp [markedF,this]
 ·
  by_cases hc:s=x%ns∧j=r
  ·
   obtain ⟨rfl,rfl⟩:=hc
   have ev:up2 blk (x%ns) j ⟨x,true,up1 (blk (x%ns) j).wd i e.val⟩ (x%ns) j=⟨x,true,up1 (blk (x%ns) j).wd i e.val⟩:=by simp [up2]
   rw [ev]
   simp only
   by_cases g:i'=i
   ·
    subst g
    simp [up1,wordF,hw,hea]
   ·
    have g':¬((x:Int)*ln+i=(x:Int)*ln+i'):=by omega
    have old:=h.wd (x%ns) j i' hs' hj hi' (by omega)
    rw [hx] at old
    simp [up1,wordF,hw,hea,g,g',old]
  ·
   rw [keep s j hc] at hh ⊢
   rw [h.wd s j i' hs' hj hi' hh]
   have hne:=nx s j hs' hj hc
   have:¬(e.addr=(blk s j).line*ln+i'):=fun q=>by
    rw [hea] at q
    exact hne (digit_eq (by omega) (by omega) (by omega) (by omega) (by omega) q).1.symm
   simp [wordF,this]
theorem where_ne {z:Int}{e:Ent}{L:List Ent}(h:¬e.line=z):whereF z (e::L)=whereF z L:=by
 conv=>lhs;unfold whereF
 simp [h]
theorem marked_ne {z:Int}{e:Ent}{L:List Ent}(h:¬e.line=z):markedF z (e::L)=markedF z L:=by
 conv=>lhs;unfold markedF
 simp [h]
theorem memory_ne {z a i:Int}{e:Ent}{L:List Ent}(h:¬e.line=z):memoryF z a i (e::L)=memoryF z a i L:=by
 conv=>lhs;unfold memoryF
 simp [h]
structure MemR (pv ln:Nat)(first:Int→Int)(own:Nat→Int)(L:List Ent):Prop where
 mem:∀ a:Nat,a<pv→own a=memoryF ((a / ln:Nat):Int) a (first a) L
 cln:∀ a:Nat,a<pv→(whereF ((a / ln:Nat):Int) L<0∨markedF ((a / ln:Nat):Int) L=false)→own a=wordF a (first a) L
 shw:∀ a:Nat,pv≤a→wordF a (first a) L=first a
theorem MemR.start {pv ln:Nat}{first:Int→Int}{own:Nat→Int}(h:∀ a:Nat,a<pv→own a=first a):MemR pv ln first own []:=
 ⟨fun a ha=>h a ha,fun a ha _=>h a ha,fun _ _=>rfl⟩
theorem MemR.other {pv ln:Nat}{first:Int→Int}{own:Nat→Int}{L:List Ent}(h:MemR pv ln first own L){e:Ent}(h1:e.what≠1)(h2:e.what≠2)(h4:e.what≠4):MemR pv ln first own (e::L):=by
 have b1:(e.what==1)=false:=by simp [h1]
 have b2:(e.what==2)=false:=by simp [h2]
 have b4:(e.what==4)=false:=by simp [h4]
 refine ⟨fun a ha=>?_,fun a ha q=>?_,fun a ha=>?_⟩
 · rw [h.mem a ha];simp [memoryF,b2]
 ·
  rw [whereF_far h1 h2] at q
  have:markedF ((a / ln:Nat):Int) (e::L)=markedF ((a / ln:Nat):Int) L:=by simp [markedF,b1,b4]
  rw [this] at q
  rw [h.cln a ha q];simp [wordF,b4]
 ·
  have:=h.shw a ha
  simpa [wordF,b4] using this
theorem MemR.fill {pv ln:Nat}{first:Int→Int}{own:Nat→Int}{L:List Ent}(h:MemR pv ln first own L){e:Ent}{x:Nat}(hw:e.what=1)(hx:e.line=x)(hn:whereF x L<0):MemR pv ln first own (e::L):=by
 refine ⟨fun a ha=>?_,fun a ha q=>?_,fun a ha=>?_⟩
 · rw [h.mem a ha];simp [memoryF,hw]
 ·
  have:own a=wordF a (first a) L:=by
   by_cases g:a / ln=x
   · exact h.cln a ha (Or.inl (by rw [g];exact hn))
   ·
    have g':¬(e.line=((a / ln:Nat):Int)):=by omega
    rw [where_ne g',marked_ne g'] at q
    exact h.cln a ha q
  rw [this];simp [wordF,hw]
 ·
  have:=h.shw a ha
  simpa [wordF,hw] using this
theorem MemR.gone {pv ln:Nat}{first:Int→Int}{own own':Nat→Int}{L:List Ent}(h:MemR pv ln first own L){e:Ent}{y:Nat}(hw:e.what=2)(hy:e.line=y)(ho:∀ a,a<pv→a / ln=y→own' a=wordF a (first a) L)(hk:∀ a,a<pv→a / ln≠y→own' a=own a):MemR pv ln first own' (e::L):=by
 refine ⟨fun a ha=>?_,fun a ha q=>?_,fun a ha=>?_⟩
 ·
  by_cases g:a / ln=y
  ·
   rw [ho a ha g]
   simp [memoryF,hw,hy,g]
  ·
   have g':¬(e.line=((a / ln:Nat):Int)):=by omega
   rw [hk a ha g,h.mem a ha,memory_ne g']
 ·
  have:own' a=wordF a (first a) L:=by
   by_cases g:a / ln=y
   · exact ho a ha g
   ·
    have g':¬(e.line=((a / ln:Nat):Int)):=by omega
    rw [where_ne g',marked_ne g'] at q
    rw [hk a ha g]
    exact h.cln a ha q
  rw [this];simp [wordF,hw]
 ·
  have:=h.shw a ha
  simpa [wordF,hw] using this
theorem MemR.store {pv ln:Nat}{first:Int→Int}{own:Nat→Int}{L:List Ent}(h:MemR pv ln first own L){e:Ent}{a0:Nat}(hw:e.what=4)(hx:e.line=((a0 / ln:Nat):Int))(hea:e.addr=a0)(hap:a0<pv)(hin:0≤whereF ((a0 / ln:Nat):Int) L):MemR pv ln first own (e::L):=by
 have n1:e.what≠1:=by omega
 have n2:e.what≠2:=by omega
 refine ⟨fun a ha=>?_,fun a ha q=>?_,fun a ha=>?_⟩
 · rw [h.mem a ha];simp [memoryF,hw]
 ·
  rw [whereF_far n1 n2] at q
  by_cases g:a / ln=a0 / ln
  ·
   exfalso
   rcases q with q|q
   · rw [g] at q;omega
   · simp [markedF,hw,hx,g] at q
  ·
   have g':¬(e.line=((a / ln:Nat):Int)):=by omega
   rw [marked_ne g'] at q
   have:own a=wordF a (first a) L:=h.cln a ha q
   have g2:¬(e.addr=(a:Int)):=fun q2=>g (by rw [hea] at q2;have:a0=a:=(by omega);rw [this])
   rw [this];simp [wordF,g2]
 ·
  have:=h.shw a ha
  have g2:¬(e.addr=(a:Int)):=by omega
  simpa [wordF,g2] using this
def Inc (c:Cf)(nc:Nat)(t:Int)(L:List Ent):Prop:=∀ k x:Nat,k<nc→stateF c k x t false L≠0→0≤whereF x L
theorem Inc.fill {c:Cf}{nc:Nat}{t:Int}{L:List Ent}(R:Right c)(h:Inc c nc t L){e:Ent}(ht:e.t=t)(hw:e.what=1)(hway:0≤e.way):Inc c nc t (e::L):=fun k x hk hs=>by
 rw [stateF_fill (by rw [ht];exact flushed_self R t) hw] at hs
 have:=h k x hk hs
 unfold whereF
 split
 · exact hway
 · rw [if_neg (by simp [hw])];exact this
theorem Inc.gone {c:Cf}{nc:Nat}{t:Int}{L:List Ent}(R:Right c)(h:Inc c nc t L){e:Ent}(ht:e.t=t)(hw:e.what=2):Inc c nc t (e::L):=fun k x hk hs=>by
 rw [stateF_gone (by rw [ht];exact flushed_self R t) hw] at hs
 by_cases g:(x:Int)=e.line
 · rw [if_pos g] at hs;exact absurd rfl hs
 ·
  rw [if_neg g] at hs
  have g':¬e.line=(x:Int):=fun q=>g q.symm
  have:=h k x hk hs
  simpa [whereF,hw,g'] using this
theorem Inc.hand {c:Cf}{nc:Nat}{t:Int}{L:List Ent}(R:Right c)(h:Inc c nc t L){e:Ent}(ht:e.t=t)(hw:e.what=3)(hin:0≤whereF e.line L):Inc c nc t (e::L):=fun k x hk hs=>by
 rw [whereF_far (by omega) (by omega)]
 by_cases g:(x:Int)=e.line
 · rw [g];exact hin
 ·
  rw [stateF_hand (by rw [ht];exact flushed_self R t) hw] at hs
  refine h k x hk ?_
  by_cases g1:(k:Int)=e.core
  ·
   rw [if_pos g1,if_neg g] at hs
   by_cases g2:e.line%c.near=(x:Int)%c.near
   · rw [if_pos g2] at hs;exact absurd rfl hs
   · rw [if_neg g2] at hs;exact hs
  · rw [if_neg g1,if_neg g] at hs;exact hs
theorem Inc.store {c:Cf}{nc:Nat}{t:Int}{L:List Ent}(R:Right c)(h:Inc c nc t L){e:Ent}(ht:e.t=t)(hw:e.what=4)(hin:0≤whereF e.line L):Inc c nc t (e::L):=fun k x hk hs=>by
 rw [whereF_far (by omega) (by omega)]
 by_cases g:(x:Int)=e.line
 · rw [g];exact hin
 ·
  rw [stateF_store (by rw [ht];exact flushed_self R t) hw,if_neg (fun q=>g q.2)] at hs
  exact h k x hk hs
theorem Inc.next {c:Cf}{nc:Nat}{t:Int}{L:List Ent}(R:Right c)(h:Inc c nc t L)(hl:∀ e∈L,e.t≤t):Inc c nc (t+1) L:=fun k x hk hs=>by
 by_cases g:flushesB c (t+1)=true
 ·
  rw [stateF_flushed (fun e he=>flush_all R g (by have:=hl e he;omega))] at hs
  exact absurd rfl hs
 ·
  have g':flushesB c (t+1)=false:=by simpa using g
  rw [state_later R (by omega) (flush_none R g')] at hs
  exact h k x hk hs
def LogTurn (c:Cf)(nc:Nat)(d t:Int)(L:List Ent):Prop:=∀ e∈L,e.t≤t∧((e.what=3∨e.what=4)→∃ k:Nat,k<nc∧e.core=k∧turnZ c k e.t=d∧e.t%c.quantum<c.quantum-c.flush)
theorem LogTurn.far {c:Cf}{nc:Nat}{d t:Int}{L:List Ent}(h:LogTurn c nc d t L){e:Ent}(ht:e.t=t)(h3:e.what≠3)(h4:e.what≠4):LogTurn c nc d t (e::L):=fun x hx=>by
 rcases List.mem_cons.1 hx with q|q
 · subst q;exact ⟨by omega,fun w=>by omega⟩
 · exact h x q
theorem LogTurn.core {c:Cf}{nc:Nat}{d t:Int}{L:List Ent}(h:LogTurn c nc d t L){e:Ent}{k:Nat}(ht:e.t=t)(hk:k<nc)(hc:e.core=k)(h1:turnZ c k t=d)(h2:t%c.quantum<c.quantum-c.flush):LogTurn c nc d t (e::L):=fun x hx=>by
 rcases List.mem_cons.1 hx with q|q
 · subst q;exact ⟨by omega,fun _=>⟨k,hk,hc,by rw [ht];exact h1,by rw [ht];exact h2⟩⟩
 · exact h x q
theorem LogTurn.mono {c:Cf}{nc:Nat}{d t u:Int}{L:List Ent}(h:LogTurn c nc d t L)(hu:t≤u):LogTurn c nc d u L:=fun x hx=>by
 obtain ⟨a,b⟩:=h x hx
 exact ⟨by omega,b⟩
theorem LogTurn.away {c:Cf}{nc:Nat}{d t:Int}{L:List Ent}(R:Right c)(h:LogTurn c nc d t L){k:Nat}(hk:turnZ c k t≠d)(x:Nat):stateF c k x t false L=0:=by
 refine Classical.byContradiction fun q=>?_
 obtain ⟨e,he,hw,h1,h2,h3⟩:=state_entry q
 obtain ⟨g1,g2⟩:=h e he
 obtain ⟨j,_,g3,g4,g5⟩:=g2 hw
 have ej:j=k:=by omega
 subst ej
 have:=same_turn R g5 g1 h3
 apply hk
 rw [← g4]
 unfold turnZ
 rw [this]
theorem touched_hand {c:Cf}{s:Int}{e:Ent}{L:List Ent}(hw:e.what=3):touchedF c s (e::L)=if e.line%c.sets=s then touchedF c s L++[e.way] else touchedF c s L:=by
 unfold touchedF
 rw [List.reverse_cons,List.filter_append,List.map_append]
 by_cases g:e.line%c.sets=s
 · rw [if_pos g];simp [hw,g]
 · rw [if_neg g];simp [g]
theorem touched_other {c:Cf}{s:Int}{e:Ent}{L:List Ent}(hw:e.what≠3):touchedF c s (e::L)=touchedF c s L:=by
 unfold touchedF
 rw [List.reverse_cons,List.filter_append,List.map_append]
 simp [hw]
theorem room_chosen {c:Cf}{ns wn ln:Nat}{first:Int→Int}{blk:Nat→Nat→Bk}{L:List Ent}(h:FarR c ns wn ln first blk L){s:Nat}(hs:s<ns){tc:List Int}(ht:SameTouch tc (touchedF c s L)):roomF (blk s) wn tc=chosenF c wn s L:=by
 have key:∀ n j:Nat,j+n=wn→(firstW (fun j=>decide ((blk s j).line=-1)) n j=-1∧emptyF c s L n j=wn)∨(∃ i:Nat,i<wn∧firstW (fun j=>decide ((blk s j).line=-1)) n j=i∧emptyF c s L n j=i):=by
  intro n
  induction n with
  | zero=>intro j hj;left;exact ⟨rfl,by show (j:Int)=wn;omega⟩
  | succ n ih=>
   intro j hj
   unfold firstW emptyF
   have hjw:j<wn:=by omega
   have e1:=h.line s j hs hjw
   have e2:=h.low s j hs hjw
   by_cases g:(blk s j).line=-1
   ·
    right
    refine ⟨j,hjw,by rw [if_pos (by simp [g])],by rw [if_pos (by rw [← e1];omega)]⟩
   ·
    rw [if_neg (by simp [g]),if_neg (by rw [← e1];omega)]
    have hcast:((j:Int)+1)=((j+1:Nat):Int):=by omega
    rw [hcast]
    exact ih (j+1) (by omega)
 unfold roomF chosenF wayF
 have:=key wn 0 (by omega)
 have z:((0:Nat):Int)=0:=rfl
 rw [z] at this
 rcases this with ⟨h1,h2⟩|⟨i,h0,h1,h2⟩
 ·
  rw [if_pos h1,h2]
  simp only
  rw [if_neg (by omega)]
  exact ht.victim _
 ·
  rw [h1,h2,if_neg (by omega)]
  simp only
  rw [if_pos (by omega)]
end Go.Proofs.YtehheaedbnfidaaGreat
