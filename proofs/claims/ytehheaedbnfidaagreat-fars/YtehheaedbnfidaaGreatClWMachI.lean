import Derived.Test.YtehheaedbnfidaaGreatClWMachG
import Derived.Test.YtehheaedbnfidaaGreatClMachF
set_option maxRecDepth 100000
namespace Go.Proofs.YtehheaedbnfidaaGreat
open Go.RowKit
theorem finishC:FinishC:=fun N X m k d v f w h hk hd h1 h2 h3=>kfinish_any N X m k d v f w h hk hd h1 h2 h3
theorem turn_range {c:Cf}(h:chk c=0){k:Nat}{t:Int}(hk:(k:Int)<c.cores)(ho:openB c k (turnZ c k t) t=true):0≤turnZ c k t∧turnZ c k t<c.domains:=by
 have R:=right_of h
 unfold openB at ho
 simp only [Bool.and_eq_true,decide_eq_true_eq] at ho
 refine ⟨ho.1.2,?_⟩
 have hi:k<c.turns.length:=by have:=R.tl;omega
 have hrow:=grid_row R hi
 have e:c.turns.getD k []=c.turns[k]:=by simp [List.getD,hi]
 have hl:=R.each _ (List.getElem_mem hi)
 rw [← e] at hl
 unfold turnZ rowOf
 obtain ⟨j,hj,hjl⟩:=mod_nat (a:=t / c.quantum) (n:=(c.turns.getD k []).length) (by omega)
 rw [hj,Int.toNat_natCast]
 unfold listB at hl
 simp only [Bool.and_eq_true,List.all_eq_true] at hl
 have hm:∀ (l:List Int) (j:Nat),j<l.length→l.getD j 0∈l:=fun l j hj=>by
  rw [List.getD_eq_getElem?_getD,List.getElem?_eq_getElem hj]
  exact List.getElem_mem hj
 have hm:=hm _ j hjl
 have:=hl.2 _ hm
 rw [within_iff] at this
 omega
set_option maxHeartbeats 6400000 in
theorem kstep_any (N:Cn)(X:XLoc)(m:Mh)(k:Nat)(served:Int)(w:World)(h:MachM w N X m)(ok:MhOk N m)(hk:k<N.nc) :
  Calls Tryz.prog 146 #[.pointer (some ⟨X.g,0,none⟩),.int .i64 k,.int .i64 served] w fun e w'=>e = .returned (.tuple #[])∧∃ X',MachM w' N X' (m.step N served k)∧Goes w w' X X':=by
 obtain ⟨n1,n2,n3,n4,n5,n6,n7,n8,n9,n10,n11,n12,n13,n14,n15⟩:=h.nums
 have c19:w.cell? ⟨X.g,19,none⟩=some (.slice (some ⟨X.ck,0,none⟩) N.nc N.nc):=by rw [h.row.cell];rfl
 obtain ⟨k0,_,_⟩:=wk_at h.wks hk
 have HST:Hid (m.step N served k=if (m.wk k).busy=true then m.endFault N k else if (k:Int)=served then m else if openB N.c k (turnZ N.c k m.now) m.now=false then m else match m.next (turnZ N.c k m.now).toNat k with | none=>m | some o=>m.begin N (turnZ N.c k m.now).toNat k o):=rfl
 have HM:Hid _:=h
 have HOK:Hid _:=ok
 by_cases a1:(m.wk k).busy=true
 ·
  have HS2:Hid _:=HST.out
  rw [if_pos a1] at HS2
  have hE:=kendFault_any N X m k w h ok hk a1
  rw [a1] at k0
  clear n1 n2 n3 n4 n5 n6 n7 h ok a1 HST
  go_enter Tryz.func146,Tryz.ntmps146
  go_wp2_with fail
  refine hE.mono ?_;rintro e w1 ⟨rfl,X',hM1,hG1⟩
  go_wp2
  refine bodyPost_ret (results_none rfl _ _ _) rfl ?_
  exact ⟨rfl,X',by rw [HS2.out];exact hM1,hG1⟩
 ·
  have a1f:(m.wk k).busy=false:=by simpa using a1
  rw [if_neg a1] at HST
  rw [a1f] at k0
  by_cases a2:(k:Int)=served
  ·
   rw [if_pos a2] at HST
   have a2b:((k:Int)==served)=true:=by simp [a2]
   clear n1 n2 n3 n4 n5 n6 n7 h ok a1 a1f a2
   go_enter Tryz.func146,Tryz.ntmps146
   go_wp2
   refine bodyPost_ret (results_none rfl _ _ _) rfl ?_
   exact ⟨rfl,X,by rw [HST.out];exact HM.out,Goes.refl _ _⟩
  ·
   rw [if_neg a2] at HST
   have a2b:((k:Int)==served)=false:=by simp [a2]
   have hrw:=h.row
   have c0:w.cell? ⟨X.g,0,none⟩=some (.int .i64 N.c.cores):=by rw [h.row.cell];rfl
   have c1:w.cell? ⟨X.g,1,none⟩=some (.int .i64 N.c.domains):=by rw [h.row.cell];rfl
   have c2:w.cell? ⟨X.g,2,none⟩=some (.int .i64 N.c.line):=by rw [h.row.cell];rfl
   have c3:w.cell? ⟨X.g,3,none⟩=some (.int .i64 N.c.priv):=by rw [h.row.cell];rfl
   have c4:w.cell? ⟨X.g,4,none⟩=some (.int .i64 N.c.shared):=by rw [h.row.cell];rfl
   have c5:w.cell? ⟨X.g,5,none⟩=some (.int .i64 N.c.near):=by rw [h.row.cell];rfl
   have c6:w.cell? ⟨X.g,6,none⟩=some (.int .i64 N.c.sets):=by rw [h.row.cell];rfl
   have c7:w.cell? ⟨X.g,7,none⟩=some (.slice X.s.wa X.s.wl X.s.wc):=by rw [h.row.cell];rfl
   have c8:w.cell? ⟨X.g,8,none⟩=some (.int .i64 N.c.slot):=by rw [h.row.cell];rfl
   have c9:w.cell? ⟨X.g,9,none⟩=some (.slice X.s.sa X.s.sl X.s.sc):=by rw [h.row.cell];rfl
   have c10:w.cell? ⟨X.g,10,none⟩=some (.slice X.s.ta X.s.tl X.s.tc):=by rw [h.row.cell];rfl
   have c11:w.cell? ⟨X.g,11,none⟩=some (.int .i64 N.c.quantum):=by rw [h.row.cell];rfl
   have c12:w.cell? ⟨X.g,12,none⟩=some (.int .i64 N.c.flush):=by rw [h.row.cell];rfl
   have c13:w.cell? ⟨X.g,13,none⟩=some (.int .i64 m.now):=by rw [h.row.cell];rfl
   have hkc:(k:Int)<N.c.cores:=by omega
   have hO:Calls Tryz.prog 119 #[cfgV N.c X.s,.int .i64 k,.int .i64 m.now] w.drew fun e w'=>e = .returned (.tuple #[.int .i64 (turnZ N.c k m.now),.bool (openB N.c k (turnZ N.c k m.now) m.now)])∧Below w.drew.heap.size w.drew w':=cowner_any N.c X.s k m.now _ (h.cfg.drew) h.right hkc h.now0 h.now1
   have htr:=turn_range (t:=m.now) h.right hkc
   have HTR:Hid _:=htr
   have HND:Hid _:=n2
   clear n1 n2 n3 n4 n5 n6 n7 h ok a1 a1f a2 htr hrw
   go_enter Tryz.func146,Tryz.ntmps146
   go_wp2_with fail
   go_cut [6,7] (fun u v wx=>u = .int .i64 (turnZ N.c k m.now)∧v = .bool (openB N.c k (turnZ N.c k m.now) m.now)∧Below w.heap.size w wx)
   case first=>
    go_region_with (go_at_call 119;refine hO.mono ?_;rintro e w1 ⟨rfl,hb1⟩)
    all_goals go_wp2_with fail
    all_goals go_meet
    all_goals exact ⟨rfl,rfl,(Below.refl w.heap.size w).drew.trans hb1⟩
   case rest=>
    obtain ⟨rfl,rfl,hb1⟩:=hcut
    have M1:=HM.out.below hb1 (Nat.le_refl _)
    clear c0 c1 c2 c3 c4 c5 c6 c7 c8 c9 c10 c11 c12 c13 c19 k0 hO
    rcases Bool.eq_false_or_eq_true (openB N.c k (turnZ N.c k m.now) m.now) with hop|hop
    ·
     have htr:=HTR.out hop
     rw [if_neg (by rw [hop];simp)] at HST
     obtain ⟨d,hdz⟩:=Int.eq_ofNat_of_zero_le htr.1
     have hd:d<N.nd:=by have:=HND.out;omega
     rw [hdz,Int.toNat_natCast] at HST
     rw [hop,hdz]
     have hNx:=knext_any N X m d k wc M1 hd hk (HOK.out.len d k) (Nat.le_trans (HOK.out.dn d k) (HOK.out.len d k))
     clear htr hop hdz
     go_wp2_with fail
     refine hNx.mono ?_;rintro e w2 ⟨rfl,hb2⟩
     have hb3:=below_step hb1 hb2 rfl
     have M2:=HM.out.below hb3 (Nat.le_refl _)
     have HG2:Hid (Goes w w2 X X):=Goes.of_below hb3
     clear hNx M1
     rcases hnx:m.next d k with _|o
     ·
      rw [hnx] at HST
      have HM2:Hid _:=M2
      clear M2
      go_wp2
      refine bodyPost_end (results_none rfl _ _ _) rfl ?_
      have hbA:Below w2.heap.size w2 (w2.alloc (.cells (opArr opZ) 69)):=(Below.refl _ _).alloc (Nat.le_refl _) _
      exact ⟨rfl,X,by rw [HST.out];exact HM2.out.below hbA (Nat.le_refl _),HG2.out.trans (Goes.of_below hbA)⟩
     ·
      rw [hnx] at HST
      have hbA:Below w2.heap.size w2 (w2.alloc (.cells (opArr o) 69)):=(Below.refl _ _).alloc (Nat.le_refl _) _
      have M3:=M2.below hbA (Nat.le_refl _)
      have hBg:=kbegin_any finishC N X m d k o _ M3 HOK.out hd hk
      have HG3:Hid (Goes w (w2.alloc (.cells (opArr o) 69)) X X):=HG2.out.trans (Goes.of_below hbA)
      obtain ⟨o1,o2,o3⟩:=o
      clear M2 M3 hbA
      go_wp2_with fail
      refine hBg.mono ?_;rintro e w3 ⟨rfl,X',hM3,hG3⟩
      go_wp2
      refine bodyPost_end (results_none rfl _ _ _) rfl ?_
      exact ⟨rfl,X',by rw [HST.out];exact hM3,HG3.out.trans hG3⟩
    ·
     rw [if_pos hop] at HST
     rw [hop]
     have HM1:Hid _:=M1
     clear M1
     go_wp2
     refine bodyPost_ret (results_none rfl _ _ _) rfl ?_
     exact ⟨rfl,X,by rw [HST.out];exact HM1.out,Goes.of_below hb1⟩
theorem ktouch_any (N:Cn)(X:XLoc)(m:Mh)(d x q j:Nat)(w:World)(h:MachM w N X m)(hd:d<N.nd)(hx:x≤1000)(hq:Hid (q=x%N.ns))(hj:j<N.wn d) :
  Calls Tryz.prog 152 #[.pointer (some ⟨X.dm,d*4+1,none⟩),.int .i64 x,.int .i64 j] w fun e w'=>e = .returned (.tuple #[])∧∃ gg cap,MachM w' N (X.touch d q gg (touchF (m.tch d q) j).length cap) { m with tch:=up2 m.tch d q (touchF (m.tch d q) j) }∧Goes w w' X (X.touch d q gg (touchF (m.tch d q) j).length cap):=by
 have hqs:q<N.ns:=by rw [hq.out];exact Nat.mod_lt _ (h.far d hd).n0
 refine (fTouch_any N.ns (N.wn d) (X.f d) (m.blk d) (m.tch d) X.dm (d*4+1) x q j w (h.far d hd) (fun k hk e=>?_) (dom_at h hd).2.1 (by omega) hq hj).mono ?_
 ·
  have h1:=h.labs.fi d hd k hk
  have h2:=h.labs.fo d hd k (Or.inl e)
  rw [h1] at h2
  simp at h2
 ·
  rintro e w' ⟨rfl,gg,cap,hg,hg2,hF,hT⟩
  refine ⟨rfl,gg,cap,h.setTouch hd hqs hg hg2 hF hT,⟨rfl,hT.mono fun b hb=>?_,fun b hb hm=>?_⟩⟩
  · unfold XLoc.mine;rw [h.labs.fo d hd b hb];simp
  ·
   unfold XLoc.mine XLoc.touch at hm
   by_cases e2:b=gg
   · omega
   ·
    simp only [e2,if_false] at hm
    exact hm
theorem servedF_range {c:Cf}(h:chk c=0)(t:Int):servedF c t=-1∨(0≤servedF c t∧servedF c t<c.domains):=by
 have R:=right_of h
 unfold servedF
 split
 ·
  right
  obtain ⟨j,hj,hjl⟩:=mod_nat (a:=t / c.slot) (n:=c.slots.length) (by have:=R.t1;omega)
  rw [hj,Int.toNat_natCast]
  have hm:∀ (l:List Int) (j:Nat),j<l.length→l.getD j 0∈l:=fun l j hj=>by
   rw [List.getD_eq_getElem?_getD,List.getElem?_eq_getElem hj]
   exact List.getElem_mem hj
  have hm:=hm _ j hjl
  have hs:=(chk_zero h).2.2.1
  simp only [slotsB,listB,Bool.and_eq_true,List.all_eq_true] at hs
  have:=hs.1.2.2 _ hm
  rw [within_iff] at this
  omega
 · exact Or.inl rfl
theorem MachM.pop {w:World}{N:Cn}{X:XLoc}{m:Mh}{d:Nat}{c:Int}{q:List Int}(h:MachM w N X m)(hd:d<N.nd)(hq:m.wt d=c::q){g off off' cap':Nat}{cur:List Value}(ha:X.wa d=some ⟨g,off,none⟩)(hr:Row w g cur 3)(hlc:X.wl d≤X.wc d)(hm:X.wc d≤maxLen)(hcl:off+X.wc d≤cur.length)(hat:∀ i,i<X.wl d→cur[off+i]? = some (.int .i64 ((m.wt d).getD i 0)))(hc:(X.wc d=1∧off'=off∧cap'=0)∨(off'=off+1∧cap'=X.wc d-1)) :
  MachM (w.setCell ⟨X.dm,d*4+2,none⟩ (.slice (some ⟨g,off',none⟩) q.length cap')) N (X.waits d g off' q.length cap') { m with wt:=up1 m.wt d q }∧Goes w (w.setCell ⟨X.dm,d*4+2,none⟩ (.slice (some ⟨g,off',none⟩) q.length cap')) X (X.waits d g off' q.length cap'):=by
 have hl:X.wl d=q.length+1:=by rw [(h.wait d hd).1,hq];rfl
 have hg:X.lab g=some (12,d):=h.labs.wt d hd g off ha
 refine ⟨h.setWait hd (Touch.refl _ _) ⟨rfl,Or.inr ⟨g,off',cur,rfl,hr,by omega,by omega,by omega,fun i hi=>?_⟩⟩ (Or.inl hg) hr.lt,XLoc.goesWait h.labs hd (Touch.refl _ _) (Or.inl hg)⟩
 rcases hc with hc|hc
 · omega
 ·
  have:=hat (i+1) (by omega)
  rw [hq] at this
  rw [hc.1,show off+1+i=off+(i+1) by omega,this]
  rfl
set_option maxHeartbeats 6400000 in
theorem kserve_any (N:Cn)(X:XLoc)(m:Mh)(w:World)(h:MachM w N X m)(ok:MhOk N m) :
  Calls Tryz.prog 145 #[.pointer (some ⟨X.g,0,none⟩)] w fun e w'=>e = .returned (.int .i64 (m.service N).2)∧∃ X',MachM w' N X' (m.service N).1∧Goes w w' X X':=by
 obtain ⟨n1,n2,n3,n4,n5,n6,n7,n8,n9,n10,n11,n12,n13,n14,n15⟩:=h.nums
 have c0:w.cell? ⟨X.g,0,none⟩=some (.int .i64 N.c.cores):=by rw [h.row.cell];rfl
 have c1:w.cell? ⟨X.g,1,none⟩=some (.int .i64 N.c.domains):=by rw [h.row.cell];rfl
 have c2:w.cell? ⟨X.g,2,none⟩=some (.int .i64 N.c.line):=by rw [h.row.cell];rfl
 have c3:w.cell? ⟨X.g,3,none⟩=some (.int .i64 N.c.priv):=by rw [h.row.cell];rfl
 have c4:w.cell? ⟨X.g,4,none⟩=some (.int .i64 N.c.shared):=by rw [h.row.cell];rfl
 have c5:w.cell? ⟨X.g,5,none⟩=some (.int .i64 N.c.near):=by rw [h.row.cell];rfl
 have c6:w.cell? ⟨X.g,6,none⟩=some (.int .i64 N.c.sets):=by rw [h.row.cell];rfl
 have c7:w.cell? ⟨X.g,7,none⟩=some (.slice X.s.wa X.s.wl X.s.wc):=by rw [h.row.cell];rfl
 have c8:w.cell? ⟨X.g,8,none⟩=some (.int .i64 N.c.slot):=by rw [h.row.cell];rfl
 have c9:w.cell? ⟨X.g,9,none⟩=some (.slice X.s.sa X.s.sl X.s.sc):=by rw [h.row.cell];rfl
 have c10:w.cell? ⟨X.g,10,none⟩=some (.slice X.s.ta X.s.tl X.s.tc):=by rw [h.row.cell];rfl
 have c11:w.cell? ⟨X.g,11,none⟩=some (.int .i64 N.c.quantum):=by rw [h.row.cell];rfl
 have c12:w.cell? ⟨X.g,12,none⟩=some (.int .i64 N.c.flush):=by rw [h.row.cell];rfl
 have c13:w.cell? ⟨X.g,13,none⟩=some (.int .i64 m.now):=by rw [h.row.cell];rfl
 have hS:Calls Tryz.prog 147 #[cfgV N.c X.s,.int .i64 m.now] w.drew fun e w'=>e = .returned (.int .i64 (servedF N.c m.now))∧Below w.drew.heap.size w.drew w':=cserved_any N.c X.s m.now _ (h.cfg.drew) h.right h.now0 h.now1
 have hsr:=servedF_range h.right m.now
 have HSR:Hid _:=hsr
 have HSV:Hid (m.service N=if servedF N.c m.now<0 then (m,-1) else m.serve N (servedF N.c m.now).toNat):=rfl
 have HM:Hid _:=h
 have HOK:Hid _:=ok
 have HND:Hid _:=n2
 have HNC:Hid _:=n8
 clear n1 n2 n3 n4 n5 n6 n7 h ok hsr
 go_enter Tryz.func145,Tryz.ntmps145
 go_wp2_with fail
 go_cut [3] (fun u wx=>u = .int .i64 (servedF N.c m.now)∧Below w.heap.size w wx)
 case first=>
  go_region_with (go_at_call 147;refine hS.mono ?_;rintro e w1 ⟨rfl,hb1⟩)
  all_goals go_wp2_with fail
  all_goals go_meet
  all_goals exact ⟨rfl,(Below.refl w.heap.size w).drew.trans hb1⟩
 case rest=>
  obtain ⟨rfl,hb1⟩:=hcut
  have M1:=HM.out.below hb1 (Nat.le_refl _)
  clear c0 c1 c2 c3 c4 c5 c6 c7 c8 c9 c10 c11 c12 c13 hS
  have c18:wc.cell? ⟨X.g,18,none⟩=some (.slice (some ⟨X.dm,0,none⟩) N.nd X.dc):=by rw [M1.row.cell];rfl
  rcases HSR.out with hs|⟨hs0,hs1⟩
  ·
   rw [hs] at HSV
   rw [if_pos (by omega)] at HSV
   rw [hs]
   have HM1:Hid _:=M1
   clear M1 hs HSR
   go_wp2
   go_ret
   exact ⟨ret_int (by rw [HSV.out]),X,by rw [HSV.out];exact HM1.out,Goes.of_below hb1⟩
  ·
   obtain ⟨d,hdz⟩:=Int.eq_ofNat_of_zero_le hs0
   have hd:d<N.nd:=by have:=HND.out;omega
   rw [hdz,if_neg (by omega),Int.toNat_natCast] at HSV
   rw [hdz]
   clear hs0 hs1 hdz HSR
   obtain ⟨_,d1,d2,_⟩:=dom_at M1 hd
   have hwl:X.wl d=(m.wt d).length:=(M1.wait d hd).1
   have hwl3:=HOK.out.wtl HNC.out hd
   rcases hq:m.wt d with _|⟨cc,q⟩
   ·
    have hw0:X.wl d=0:=by rw [hwl,hq];rfl
    rw [hw0] at d2
    have HSV2:Hid (m.service N=(m,-1)):=by unfold Hid;rw [HSV.out];unfold Mh.serve;rw [hq]
    have HM1:Hid _:=M1
    clear M1 HSV hq hw0 hwl hwl3
    go_wp2
    go_ret
    exact ⟨ret_int (by rw [HSV2.out]),X,by rw [HSV2.out];exact HM1.out,Goes.of_below hb1⟩
   ·
    obtain ⟨k,hk,hck,hkb,hkd,o,ho,hf⟩:=HOK.out.wt d hd cc (by rw [hq];simp)
    subst hck
    rcases (M1.wait d hd).2 with ⟨_,_,q3⟩|⟨gq,off,cur,q1,q2,q3,q4,q5,q6⟩
    · rw [hq] at q3;cases q3
    have hw1:X.wl d=q.length+1:=by rw [hwl,hq];rfl
    have hw0:((X.wl d:Int)==0)=false:=by simp;omega
    have cq:wc.cell? ⟨gq,off,none⟩=some (.int .i64 k):=by
     have:=q6 0 (by omega)
     rw [q2.cell,show off=off+0 by omega,this,hq]
     rfl
    have hNx:=knext_any N X m d k wc M1 hd hk (HOK.out.len d k) (Nat.le_trans (HOK.out.dn d k) (HOK.out.len d k))
    rw [ho] at hNx
    obtain ⟨x,hx⟩:∃ x,x=(o.2.1 / (N.ln:Int)).toNat:=⟨_,rfl⟩
    have HX:Hid _:=hx
    have hx96:x≤96:=by rw [hx];exact CnOk.line ⟨M1.nok,M1.right⟩ hf
    have hfn:=fault_free hf
    have hl0:0≤o.2.1∧o.2.1≤1000:=by
     have hps:=M1.nums
     omega
    obtain ⟨s,hs⟩:∃ s,s=x%N.ns:=⟨_,rfl⟩
    have HS:Hid _:=hs
    obtain ⟨way,hway⟩:∃ way,wayF (m.blk d s) (N.wn d) x=way:=⟨_,rfl⟩
    have HWAY:Hid _:=hway
    have hwr:=way_lt (m.blk d s) (N.wn d) x
    rw [hway] at hwr
    have HSV2:Hid (m.service N=if way=-1 then (m.fetch N d x,-1) else (((({ m with wt:=up1 m.wt d q,tch:=up2 m.tch d s (touchF (m.tch d s) way) }:Mh).hand N d k o).perform N d o).finish k ((({ m with wt:=up1 m.wt d q,tch:=up2 m.tch d s (touchF (m.tch d s) way) }:Mh).hand N d k o).valueOf N d o) 0,(k:Int))):=by
     unfold Hid
     rw [HSV.out]
     unfold Mh.serve
     rw [hq]
     dsimp only
     rw [Int.toNat_natCast,ho]
     dsimp only
     rw [← hx,← hs,hway]
    have HDN:Hid (m.dn d k≤64):=Nat.le_trans (HOK.out.dn d k) (HOK.out.len d k)
    have HTL:Hid ((m.tr d).length≤1000):=by have:=HOK.out.trl HNC.out d;unfold Hid;omega
    have HKD:Hid _:=hkd
    have HQ:Hid _:=hq
    have HM1:Hid _:=M1
    have HW1:Hid _:=hw1
    have HQ1:Hid _:=q1
    have HQR:Hid (Row wc gq cur 3):=q2
    have HQA:Hid (∀ i,i<X.wl d→cur[off+i]? = some (.int .i64 ((m.wt d).getD i 0))):=q6
    have wl1:1≤X.wl d:=by omega
    have hlq:=q2.lt
    rw [q1] at d2
    have HON:Hid (m.next d k=some o):=ho
    clear M1 HSV hq hwl hwl3 hw1 ho hkb hkd hf hx hs hway hfn q1 q2 q6
    go_wp2_with fail
    refine hNx.mono ?_;rintro e w1 ⟨rfl,hb2⟩
    have hbA:Below w1.heap.size w1 (w1.alloc (.cells (opArr o) 69)):=(Below.refl _ _).alloc (Nat.le_refl _) _
    have hb3:Below wc.heap.size wc (w1.alloc (.cells (opArr o) 69)):=hb2.trans (hbA.mono hb2.size)
    have M2:=HM1.out.below hb3 (Nat.le_refl _)
    have HG2:Hid (Goes w (w1.alloc (.cells (opArr o) 69)) X X):=(Goes.of_below hb1).trans (Goes.of_below hb3)
    have hL:=kline_any N X m o x _ M2 hl0.1 hl0.2 HX
    have HRO:Hid (Row (w1.alloc (.cells (opArr o) 69)) w1.heap.size (opL o) 69):=heap_alloc_new w1 _
    have HM2:Hid _:=M2
    have HB3:Hid _:=hb3
    have hsA:w1.heap.size<(w1.alloc (.cells (opArr o) 69)).heap.size:=by simp
    have hwcs:wc.heap.size≤w1.heap.size:=hb2.size
    obtain ⟨o1,o2,o3⟩:=o
    dsimp only at *
    clear hNx cq M2 hb2 hbA hb3
    go_wp2_with fail
    refine hL.mono ?_;rintro e w2 ⟨rfl,hb4⟩
    have M3:=HM2.out.below hb4 (Nat.le_refl _)
    have HG3:Hid (Goes w w2 X X):=HG2.out.trans (Goes.of_below hb4)
    have R3:Row w2 w1.heap.size (opL (o1,o2,o3)) 69:=Row.below HRO.out hb4 hsA
    have Q3:Row w2 gq cur 3:=HQR.out.same (by rw [hb4.block gq (by omega),HB3.out.block gq hlq])
    have hF:=fFind_any N.ns (N.wn d) (X.f d) (m.blk d) (m.tch d) X.dm (d*4+1) x s w2 (M3.far d hd) (dom_at M3 hd).2.1 (by omega) HS
    rw [HWAY.out] at hF
    clear c18 d1 d2 hL
    have c18:w2.cell? ⟨X.g,18,none⟩=some (.slice (some ⟨X.dm,0,none⟩) N.nd X.dc):=by rw [M3.row.cell];rfl
    obtain ⟨_,d1,d2,_⟩:=dom_at M3 hd
    rw [HQ1.out] at d2
    have lg:=M3.row.lt
    have ld:=M3.dom.lt
    have fd:=M3.dom.frozen (d*4+2)
    have HM3:Hid _:=M3
    by_cases a1:way=-1
    ·
     have HSV3:Hid _:=HSV2.out
     rw [if_pos a1] at HSV3
     have a1b:(way==-1)=true:=by simp [a1]
     have hFe:=kfetch_any N X m d x w2 M3 hd (by omega) (HOK.out.ln d) (HOK.out.mks d)
     clear HSV2 a1 M3 R3 Q3
     go_wp2_with (go_at_call 150;refine hF.mono ?_;rintro e w' ⟨rfl,rfl⟩)
     refine hFe.mono ?_;rintro e w3 ⟨rfl,hM4,hG4⟩
     go_wp2
     go_ret
     exact ⟨ret_int (by rw [HSV3.out]),X,by rw [HSV3.out];exact hM4,HG3.out.trans hG4⟩
    ·
     have HSV3:Hid _:=HSV2.out
     rw [if_neg a1] at HSV3
     have a1b:(way==-1)=false:=by simp [a1]
     obtain ⟨j,rfl⟩:=Int.eq_ofNat_of_zero_le (show 0≤way by omega)
     have hjw:j<N.wn d:=by omega
     have hpop:=fun off' cap' hc=>M3.pop (off':=off') (cap':=cap') hd HQ.out HQ1.out Q3 q3 q4 q5 HQA.out hc
     have HPOP:Hid _:=hpop
     have HR3:Hid (Row w2 w1.heap.size (opL (o1,o2,o3)) 69):=R3
     have lR3:=R3.lt
     clear HSV2 a1 M3 R3 Q3 hpop
     go_wp2_with (go_at_call 150;refine hF.mono ?_;rintro e w' ⟨rfl,rfl⟩)
     have hnb:X.dm≠w1.heap.size:=by have:=HM1.out.dom.lt;omega
     go_cut [] (fun wx=>∃ off' cap',MachM wx N (X.waits d gq off' q.length cap') { m with wt:=up1 m.wt d q }∧Goes w wx X (X.waits d gq off' q.length cap')∧Row wx w1.heap.size (opL (o1,o2,o3)) 69)
     case first=>
      by_cases hcap:X.wc d=1
      ·
       have hwl1:X.wl d=1:=by omega
       have HC1:Hid _:=hcap
       have HL1:Hid _:=hwl1
       rw [hcap,hwl1] at d2
       clear hcap hwl1 q3 wl1 hw0
       go_region_with fail
       all_goals go_wp2_with fail
       all_goals go_meet
       all_goals
        obtain ⟨p1,p2⟩:=HPOP.out off 0 (Or.inl ⟨HC1.out,rfl,rfl⟩)
        rw [show q.length=0 by have:=HW1.out;have:=HL1.out;omega] at p1 p2 ⊢
        exact ⟨_,_,p1.below ((Below.refl _ _).drew) (Nat.le_refl _),(HG3.out.trans p2).trans (Goes.of_below ((Below.refl _ _).drew)),Row.below (Row.setCellOther (A:=opL (o1,o2,o3)) HR3.out _ _ (Ne.symm hnb)) ((Below.refl _ _).drew) (by simpa [World.setCell] using lR3)⟩
      ·
       obtain ⟨cp,hcp⟩:∃ cp,X.wc d=cp+2:=⟨X.wc d-2,by omega⟩
       obtain ⟨lp,hlp⟩:∃ lp,X.wl d=lp+1:=⟨X.wl d-1,by omega⟩
       have HCP:Hid _:=hcp
       have HLP:Hid _:=hlp
       rw [hcp,hlp] at d2
       have hle:lp+1≤cp+2:=by omega
       clear hcap hcp hlp q3 wl1 hw0
       go_region_with fail
       all_goals go_wp2_with fail
       all_goals go_meet
       all_goals
        obtain ⟨p1,p2⟩:=HPOP.out (off+1) (cp+1) (Or.inr ⟨rfl,by have:=HCP.out;omega⟩)
        rw [show q.length=lp by have:=HW1.out;have:=HLP.out;omega] at p1 p2 ⊢
        exact ⟨_,_,p1.below ((Below.refl _ _).drew) (Nat.le_refl _),(HG3.out.trans p2).trans (Goes.of_below ((Below.refl _ _).drew)),Row.below (Row.setCellOther (A:=opL (o1,o2,o3)) HR3.out _ _ (Ne.symm hnb)) ((Below.refl _ _).drew) (by simpa [World.setCell] using lR3)⟩
     case rest=>
      obtain ⟨off',cap',M4,G4,R4⟩:=hcut
      have c18':wc.cell? ⟨X.g,18,none⟩=some (.slice (some ⟨X.dm,0,none⟩) N.nd X.dc):=M4.row.cell 18
      have d1':wc.cell? ⟨X.dm,d*4+1,none⟩=some (.slice (some ⟨(X.f d).r,0,none⟩) N.ns (X.f d).rc):=(dom_at M4 hd).2.1
      have hT:=ktouch_any N (X.waits d gq off' q.length cap') { m with wt:=up1 m.wt d q } d x s j wc M4 hd (by omega) HS hjw
      have HG4:Hid _:=G4
      have HR4:Hid (Row wc w1.heap.size (opL (o1,o2,o3)) 69):=R4
      have hnl:(X.waits d gq off' q.length cap').lab w1.heap.size=none:=by
       show (if w1.heap.size=gq then some (12,d) else X.lab w1.heap.size)=none
       rw [if_neg (by omega)]
       rcases hX:X.lab w1.heap.size with _|l
       · rfl
       ·
        have:=HM1.out.labs.lt w1.heap.size (by rw [hX];simp)
        omega
      have lR4:=R4.lt
      clear c18 d1 d2 lg ld fd M4 G4 R4
      go_wp2_with fail
      refine Calls.mono hT ?_;rintro e w3 ⟨rfl,gg,cap2,M5,G5⟩
      have R5:Row w3 w1.heap.size (opL (o1,o2,o3)) 69:=HR4.out.same (G5.tch.block _ lR4 (by unfold XLoc.mine;rw [hnl];simp))
      have HG5:Hid _:=HG4.out.trans G5
      have hH:=khand_any N _ _ d k (o1,o2,o3) x w3 M5 hk hl0.1 hl0.2 HX
      have b0:w3.cell? ⟨w1.heap.size,0,none⟩=some (.int .i64 o1):=R5.cell 0
      have b1:w3.cell? ⟨w1.heap.size,1,none⟩=some (.int .i64 o2):=R5.cell 1
      have b2:w3.cell? ⟨w1.heap.size,2,none⟩=some (.int .i64 o3):=R5.cell 2
      have hnl5:((X.waits d gq off' q.length cap').touch d s gg (touchF (m.tch d s) j).length cap2).lab w1.heap.size=none:=by
       rcases hX:((X.waits d gq off' q.length cap').touch d s gg (touchF (m.tch d s) j).length cap2).lab w1.heap.size with _|l
       · rfl
       ·
        have h1:=G5.lab w1.heap.size lR4 (by unfold XLoc.mine;rw [hX];simp)
        unfold XLoc.mine at h1
        rw [hnl] at h1
        simp at h1
      have HR5:Hid (Row w3 w1.heap.size (opL (o1,o2,o3)) 69):=R5
      have lR5:=R5.lt
      clear c18' d1' hT M5 G5 R5 hnl
      go_wp2_with fail
      refine Calls.mono hH ?_;rintro e w4 ⟨rfl,M6,G6⟩
      have R6:Row w4 w1.heap.size (opL (o1,o2,o3)) 69:=HR5.out.same (G6.tch.block _ lR5 (by unfold XLoc.mine;rw [hnl5];simp))
      have HG6:Hid _:=HG5.out.trans G6
      have hP:=kperform_any N _ _ d (o1,o2,o3) x w4 M6 hd hl0.1 hl0.2 HX
      clear b0 b1 b2
      have b0:w4.cell? ⟨w1.heap.size,0,none⟩=some (.int .i64 o1):=R6.cell 0
      have b1:w4.cell? ⟨w1.heap.size,1,none⟩=some (.int .i64 o2):=R6.cell 1
      have b2:w4.cell? ⟨w1.heap.size,2,none⟩=some (.int .i64 o3):=R6.cell 2
      clear hH M6 G6 R6
      go_wp2_with fail
      refine Calls.mono hP ?_;rintro e w5 ⟨rfl,M7,G7⟩
      have HG7:Hid _:=HG6.out.trans G7
      have hs7:=perform_same N (({ m with wt:=up1 m.wt d q,tch:=up2 m.tch d s (touchF (m.tch d s) j) }:Mh).hand N d k (o1,o2,o3)) d (o1,o2,o3)
      obtain ⟨nr',hh⟩:=hand_same N ({ m with wt:=up1 m.wt d q,tch:=up2 m.tch d s (touchF (m.tch d s) j) }:Mh) d k (o1,o2,o3)
      have hFn:=finishC N _ _ k d (Mh.valueOf N (({ m with wt:=up1 m.wt d q,tch:=up2 m.tch d s (touchF (m.tch d s) j) }:Mh).hand N d k (o1,o2,o3)) d (o1,o2,o3)) 0 w5 M7 hk hd (by rw [hs7.1,hh];exact HKD.out) (by rw [hs7.2.1,hh];exact HDN.out) (by rw [hs7.2.2,hh];exact HTL.out)
      clear b0 b1 b2 hP M7 G7 hs7 hh
      go_wp2_with fail
      refine Calls.mono hFn ?_;rintro e w6 ⟨rfl,X',M8,G8⟩
      go_wp2
      go_ret
      exact ⟨ret_int (by rw [HSV3.out]),X',by rw [HSV3.out];exact M8,HG7.out.trans G8⟩
theorem MachM.cn {w:World}{N:Cn}{X:XLoc}{m:Mh}(h:MachM w N X m):CnOk N:=⟨h.nok,h.right⟩
theorem CnOk.turns {N:Cn}(h:CnOk N):∀ k,k<N.nc→∀ t,openB N.c k (turnZ N.c k t) t=true→0≤turnZ N.c k t∧turnZ N.c k t<N.c.domains:=fun k hk t ho=>turn_range h.right (by have:=h.nums;omega) ho
theorem MhOk.cycle {N:Cn}{m:Mh}(h:MhOk N m)(hN:CnOk N)(h0:0≤m.now):MhOk N (m.cycle N)∧(m.cycle N).now=m.now:=by
 have key:∀ m0:Mh,MhOk N m0→m0.now=m.now→MhOk N (Mh.steps N (m0.service N).2 N.nc (m0.service N).1)∧(Mh.steps N (m0.service N).2 N.nc (m0.service N).1).now=m.now:=fun m0 hm hn=>by
  have h1:=hm.service hN (servedF_range hN.right)
  have h2:=service_now N m0
  have h3:=MhOk.steps hN hN.turns (m0.service N).2 N.nc (m0.service N).1 h1 (by rw [h2,hn];exact h0) (Nat.le_refl _)
  exact ⟨h3.1,h3.2.trans (h2.trans hn)⟩
 unfold Mh.cycle
 dsimp only
 split
 · exact key _ (h.nrs _) rfl
 · exact key _ h rfl
set_option maxHeartbeats 6400000 in
theorem kcycle_any (N:Cn)(X:XLoc)(m:Mh)(w:World)(h:MachM w N X m)(ok:MhOk N m) :
  Calls Tryz.prog 135 #[.pointer (some ⟨X.g,0,none⟩)] w fun e w'=>e = .returned (.tuple #[])∧∃ X',MachM w' N X' (m.cycle N)∧Goes w w' X X':=by
 have hN:=h.cn
 have c0:w.cell? ⟨X.g,0,none⟩=some (.int .i64 N.c.cores):=by rw [h.row.cell];rfl
 have c1:w.cell? ⟨X.g,1,none⟩=some (.int .i64 N.c.domains):=by rw [h.row.cell];rfl
 have c2:w.cell? ⟨X.g,2,none⟩=some (.int .i64 N.c.line):=by rw [h.row.cell];rfl
 have c3:w.cell? ⟨X.g,3,none⟩=some (.int .i64 N.c.priv):=by rw [h.row.cell];rfl
 have c4:w.cell? ⟨X.g,4,none⟩=some (.int .i64 N.c.shared):=by rw [h.row.cell];rfl
 have c5:w.cell? ⟨X.g,5,none⟩=some (.int .i64 N.c.near):=by rw [h.row.cell];rfl
 have c6:w.cell? ⟨X.g,6,none⟩=some (.int .i64 N.c.sets):=by rw [h.row.cell];rfl
 have c7:w.cell? ⟨X.g,7,none⟩=some (.slice X.s.wa X.s.wl X.s.wc):=by rw [h.row.cell];rfl
 have c8:w.cell? ⟨X.g,8,none⟩=some (.int .i64 N.c.slot):=by rw [h.row.cell];rfl
 have c9:w.cell? ⟨X.g,9,none⟩=some (.slice X.s.sa X.s.sl X.s.sc):=by rw [h.row.cell];rfl
 have c10:w.cell? ⟨X.g,10,none⟩=some (.slice X.s.ta X.s.tl X.s.tc):=by rw [h.row.cell];rfl
 have c11:w.cell? ⟨X.g,11,none⟩=some (.int .i64 N.c.quantum):=by rw [h.row.cell];rfl
 have c12:w.cell? ⟨X.g,12,none⟩=some (.int .i64 N.c.flush):=by rw [h.row.cell];rfl
 have c13:w.cell? ⟨X.g,13,none⟩=some (.int .i64 m.now):=by rw [h.row.cell];rfl
 have hS:Calls Tryz.prog 143 #[cfgV N.c X.s,.int .i64 m.now] w.drew fun e w'=>e = .returned (.bool (flushesB N.c m.now))∧Below w.drew.heap.size w.drew w':=cflushes_any N.c X.s m.now _ h.right h.now0 h.now1
 obtain ⟨m0,hm0⟩:∃ m0,m0=if flushesB N.c m.now=true then { m with nr:=fun _ _=>cpE } else m:=⟨_,rfl⟩
 have HCY:Hid (m.cycle N=Mh.steps N (m0.service N).2 N.nc (m0.service N).1):=by unfold Hid Mh.cycle;rw [hm0]
 have ok0:MhOk N m0:=by rw [hm0];split;exact ok.nrs _;exact ok
 have hn0:m0.now=m.now:=by rw [hm0];split <;> rfl
 have HM0:Hid _:=hm0
 have HOK0:Hid _:=ok0
 have HN0:Hid _:=hn0
 have HM:Hid _:=h
 have hnow0:=h.now0
 have HNC:Hid (N.nc≤3):=by have:=h.nums;unfold Hid;omega
 clear h ok hm0 ok0 hn0
 go_enter Tryz.func135,Tryz.ntmps135
 go_wp2_with fail
 go_cut [12] (fun u wx=>u = .bool (flushesB N.c m.now)∧Below w.heap.size w wx)
 case first=>
  go_region_with (go_at_call 143;refine hS.mono ?_;rintro e w1 ⟨rfl,hb1⟩)
  all_goals go_wp2_with fail
  all_goals go_meet
  all_goals exact ⟨rfl,(Below.refl w.heap.size w).drew.trans hb1⟩
 case rest=>
  obtain ⟨rfl,hb1⟩:=hcut
  have M1:=HM.out.below hb1 (Nat.le_refl _)
  clear c0 c1 c2 c3 c4 c5 c6 c7 c8 c9 c10 c11 c12 c13 hS
  have c17:wc.cell? ⟨X.g,17,none⟩=some (.slice (some ⟨X.n.r,0,none⟩) N.nc X.n.rc):=by rw [M1.row.cell];rfl
  have hE:=nEmpty_any N.nc N.nn X.n m.nr X.g 17 wc M1.near c17 M1.labs.noNear
  -- what follows the flush
  have HT:Hid (∀ (wa:World),MachM wa N X m0→Goes w wa X X→Calls Tryz.prog 145 #[.pointer (some ⟨X.g,0,none⟩)] wa fun e w'=>e = .returned (.int .i64 (m0.service N).2)∧∃ X',MachM w' N X' (m0.service N).1∧Goes w w' X X'):=fun wa hM hG=>
   (kserve_any N X m0 wa hM HOK0.out).mono (by rintro e w' ⟨rfl,X',h1,h2⟩;exact ⟨rfl,X',h1,hG.trans h2⟩)
  have hMs:=HOK0.out.service hN (servedF_range hN.right)
  have hNs:=service_now N m0
  have HMS:Hid _:=hMs
  have HNS:Hid (0≤(m0.service N).1.now):=by unfold Hid;rw [hNs,HN0.out];exact hnow0
  clear hMs hNs
  obtain ⟨sv,hsv⟩:∃ sv,(m0.service N).2=sv:=⟨_,rfl⟩
  obtain ⟨ms,hms⟩:∃ ms,(m0.service N).1=ms:=⟨_,rfl⟩
  rw [hsv,hms] at HT HCY
  rw [hms] at HMS HNS
  clear hsv hms
  have HST:Hid (∀ (wa:World) (X1:XLoc) (j:Nat),j<N.nc→MachM wa N X1 (Mh.steps N sv j ms)→Goes w wa X X1→Calls Tryz.prog 146 #[.pointer (some ⟨X.g,0,none⟩),.int .i64 j,.int .i64 sv] wa fun e w'=>e = .returned (.tuple #[])∧∃ X',MachM w' N X' (Mh.steps N sv (j+1) ms)∧Goes w w' X X'):=fun wa X1 j hj hM hG=>by
   have hk:=MhOk.steps hN hN.turns sv j ms HMS.out HNS.out (by omega)
   have:=kstep_any N X1 (Mh.steps N sv j ms) j sv wa hM hk.1 hj
   rw [hG.g] at this
   refine this.mono ?_
   rintro e w' ⟨rfl,X',h1,h2⟩
   exact ⟨rfl,X',h1,hG.trans h2⟩
  rcases Bool.eq_false_or_eq_true (flushesB N.c m.now) with hf|hf
  ·
   have hm1:m0={ m with nr:=fun _ _=>cpE }:=by rw [HM0.out,if_pos hf]
   rw [hf]
   have HM1:Hid _:=hm1
   clear hf hm1
   go_wp2_with fail
   refine hE.mono ?_;rintro e w2 ⟨rfl,hN2,hT2⟩
   have hSv:=HT.out w2 (by rw [HM1.out];exact M1.setNear hN2 hT2) ((Goes.of_below hb1).trans (Goes.of_touch hT2 M1.labs.no))
   clear hE hN2 hT2 M1 c17
   go_wp2_with fail
   refine hSv.mono ?_;rintro e w3 ⟨rfl,X1,h1,h2⟩
   have HH1:Hid _:=h1
   have HH2:Hid _:=h2
   clear hSv h1 h2
   go_wp2_with fail
   go_loopw [3] (fun u wr=>∃ j:Nat,j≤N.nc∧u = .int .i64 j∧∃ X1,MachM wr N X1 (Mh.steps N sv j ms)∧Goes w wr X X1) (fun u _=>N.nc-(intOf u).toNat)
   case atStart=>exact ⟨0,by omega,rfl,X1,HH1.out,HH2.out⟩
   case round=>
    obtain ⟨j,hj,rfl,X2,hM2,hG2⟩:=hrel
    have c19:wr.cell? ⟨X.g,19,none⟩=some (.slice (some ⟨X2.ck,0,none⟩) N.nc N.nc):=by rw [← hG2.g,hM2.row.cell];rfl
    have nc3:=HNC.out
    by_cases hlt:j<N.nc
    ·
     have hS:=HST.out wr X2 j hlt hM2 hG2
     clear hM2 hG2
     go_wp2_with fail
     refine hS.mono ?_;rintro e w4 ⟨rfl,X3,h3,h4⟩
     have HH3:Hid _:=h3
     have HH4:Hid _:=h4
     clear hS h3 h4 c19
     go_wp2_with fail
     go_roundw
     case rel=>first | exact ⟨j+1,by omega,by go_num,X3,HH3.out,HH4.out⟩ | ((repeat apply Exists.intro);exact ⟨⟨j+1,by omega,by go_num,X3,HH3.out,HH4.out⟩,rfl⟩)
     case measure=>simp [intOf];omega
    ·
     have ej:j=N.nc:=by omega
     subst ej
     have HH3:Hid _:=hM2
     have HH4:Hid _:=hG2
     clear hM2 hG2
     go_wp2
     refine bodyPost_end (results_none rfl _ _ _) rfl ?_
     exact ⟨rfl,X2,by rw [HCY.out];exact HH3.out,HH4.out⟩
  ·
   have hm1:m0=m:=by rw [HM0.out,if_neg (by rw [hf];simp)]
   rw [hf]
   have hSv:=HT.out wc (by rw [hm1];exact M1) (Goes.of_below hb1)
   clear hf hm1 hE M1 c17
   go_wp2_with fail
   refine hSv.mono ?_;rintro e w3 ⟨rfl,X1,h1,h2⟩
   have HH1:Hid _:=h1
   have HH2:Hid _:=h2
   clear hSv h1 h2
   go_wp2_with fail
   go_loopw [3] (fun u wr=>∃ j:Nat,j≤N.nc∧u = .int .i64 j∧∃ X1,MachM wr N X1 (Mh.steps N sv j ms)∧Goes w wr X X1) (fun u _=>N.nc-(intOf u).toNat)
   case atStart=>exact ⟨0,by omega,rfl,X1,HH1.out,HH2.out⟩
   case round=>
    obtain ⟨j,hj,rfl,X2,hM2,hG2⟩:=hrel
    have c19:wr.cell? ⟨X.g,19,none⟩=some (.slice (some ⟨X2.ck,0,none⟩) N.nc N.nc):=by rw [← hG2.g,hM2.row.cell];rfl
    have nc3:=HNC.out
    by_cases hlt:j<N.nc
    ·
     have hS:=HST.out wr X2 j hlt hM2 hG2
     clear hM2 hG2
     go_wp2_with fail
     refine hS.mono ?_;rintro e w4 ⟨rfl,X3,h3,h4⟩
     have HH3:Hid _:=h3
     have HH4:Hid _:=h4
     clear hS h3 h4 c19
     go_wp2_with fail
     go_roundw
     case rel=>first | exact ⟨j+1,by omega,by go_num,X3,HH3.out,HH4.out⟩ | ((repeat apply Exists.intro);exact ⟨⟨j+1,by omega,by go_num,X3,HH3.out,HH4.out⟩,rfl⟩)
     case measure=>simp [intOf];omega
    ·
     have ej:j=N.nc:=by omega
     subst ej
     have HH3:Hid _:=hM2
     have HH4:Hid _:=hG2
     clear hM2 hG2
     go_wp2
     refine bodyPost_end (results_none rfl _ _ _) rfl ?_
     exact ⟨rfl,X2,by rw [HCY.out];exact HH3.out,HH4.out⟩
theorem runs_step (N:Cn)(m:Mh)(n:Nat):Mh.runs N (n+1) m={ (Mh.runs N n m).cycle N with now:=((Mh.runs N n m).cycle N).now+1 }:=rfl
theorem MhOk.later {N:Cn}{m:Mh}(h:MhOk N m):MhOk N { m with now:=m.now+1 }:=⟨h.len,h.kin,h.dn,h.tr,h.bz,h.wt,h.wn,fun k hk=>⟨(h.is k hk).1,Int.le_trans (h.is k hk).2 (by show m.now≤m.now+1;omega)⟩,h.ln,h.mks⟩
theorem MhOk.runs {N:Cn}(hN:CnOk N){m:Mh}(h:MhOk N m)(h0:0≤m.now):∀ n,MhOk N (Mh.runs N n m)∧(Mh.runs N n m).now=m.now+n
 | 0=>⟨h,by simp [Mh.runs]⟩
 | n+1=>by
  obtain ⟨h1,h2⟩:=MhOk.runs hN h h0 n
  obtain ⟨h3,h4⟩:=h1.cycle hN (by rw [h2];omega)
  rw [runs_step]
  refine ⟨h3.later,?_⟩
  show ((Mh.runs N n m).cycle N).now+1=_
  rw [h4,h2]
  omega
def runME (m:Mh)(n:Int):Int:=if n<0 then 6 else if 10000-m.now<n then 9 else 0
def runMM (N:Cn)(m:Mh)(n:Int):Mh:=if runME m n=0 then Mh.runs N n.toNat m else m
set_option maxHeartbeats 6400000 in
theorem krun_any (N:Cn)(X:XLoc)(m:Mh)(n:Int)(w:World)(h:MachM w N X m)(ok:MhOk N m) :
  Calls Tryz.prog 101 #[.pointer (some ⟨X.g,0,none⟩),.int .i64 n] w fun e w'=>e = .returned (.int .i64 (runME m n))∧∃ X',MachM w' N X' (runMM N m n)∧Goes w w' X X':=by
 have hN:=h.cn
 have n0:=h.now0
 have n1:=h.now1
 have c13:w.cell? ⟨X.g,13,none⟩=some (.int .i64 m.now):=by rw [h.row.cell];rfl
 by_cases a1:n<0
 ·
  have HE:Hid (runME m n=6):=by unfold Hid runME;rw [if_pos a1]
  have HR:Hid (runMM N m n=m):=by unfold Hid runMM;rw [if_neg (by rw [HE.out];decide)]
  go_enter Tryz.func101,Tryz.ntmps101
  go_wp2
  go_ret
  exact ⟨ret_int HE.out.symm,X,by rw [HR.out];exact h,Goes.refl _ _⟩
 by_cases a2:10000-m.now<n
 ·
  have HE:Hid (runME m n=9):=by unfold Hid runME;rw [if_neg a1,if_pos a2]
  have HR:Hid (runMM N m n=m):=by unfold Hid runMM;rw [if_neg (by rw [HE.out];decide)]
  go_enter Tryz.func101,Tryz.ntmps101
  go_wp2
  go_ret
  exact ⟨ret_int HE.out.symm,X,by rw [HR.out];exact h,Goes.refl _ _⟩
 ·
  have HE:Hid (runME m n=0):=by unfold Hid runME;rw [if_neg a1,if_neg a2]
  obtain ⟨k,rfl⟩:=Int.eq_ofNat_of_zero_le (show 0≤n by omega)
  have HR:Hid (runMM N m k=Mh.runs N k m):=by unfold Hid runMM;rw [if_pos HE.out,Int.toNat_natCast]
  have HM:Hid _:=h
  have HCY:Hid (∀ (wa:World) (X1:XLoc) (j:Nat),j<k→MachM wa N X1 (Mh.runs N j m)→Goes w wa X X1→Calls Tryz.prog 135 #[.pointer (some ⟨X.g,0,none⟩)] wa fun e w'=>e = .returned (.tuple #[])∧∃ X',MachM w' N X' ((Mh.runs N j m).cycle N)∧Goes w w' X X'):=fun wa X1 j hj hM hG=>by
   have hk:=MhOk.runs hN ok n0 j
   have:=kcycle_any N X1 (Mh.runs N j m) wa hM hk.1
   rw [hG.g] at this
   refine this.mono ?_
   rintro e w' ⟨rfl,X',h1,h2⟩
   exact ⟨rfl,X',h1,hG.trans h2⟩
  have HNW:Hid (∀ j,(Mh.runs N j m).now=m.now+j∧((Mh.runs N j m).cycle N).now=m.now+j):=fun j=>by
   have hk:=MhOk.runs hN ok n0 j
   exact ⟨hk.2,(hk.1.cycle hN (by rw [hk.2];omega)).2.trans hk.2⟩
  have k1:(k:Int)≤10000:=by omega
  have HA2:Hid _:=a2
  clear h ok
  go_enter Tryz.func101,Tryz.ntmps101
  go_wp2_with fail
  go_loopw [5] (fun u wr=>∃ j:Nat,j≤k∧u = .int .i64 j∧∃ X1,MachM wr N X1 (Mh.runs N j m)∧Goes w wr X X1) (fun u _=>k-(intOf u).toNat)
  case atStart=>exact ⟨0,by omega,rfl,X,HM.out,Goes.refl _ _⟩
  case round=>
   obtain ⟨j,hj,rfl,X2,hM2,hG2⟩:=hrel
   by_cases hlt:j<k
   ·
    have hS:=HCY.out wr X2 j hlt hM2 hG2
    clear hM2 hG2 c13
    go_wp2_with fail
    refine hS.mono ?_;rintro e w4 ⟨rfl,X3,h3,h4⟩
    have hnn:=(HNW.out j).2
    have c13:w4.cell? ⟨X.g,13,none⟩=some (.int .i64 (m.now+j)):=by rw [← h4.g,h3.row.cell,← hnn];rfl
    have f13:w4.frozen? ⟨X.g,13,none⟩=false:=by rw [← h4.g];exact h3.row.frozen 13
    have hS3:=h3.setNow (m.now+j+1) (by omega) (by have:=HA2.out;omega)
    have HH3:Hid (MachM (w4.setCell ⟨X.g,13,none⟩ (.int .i64 (m.now+j+1))) N X3 (Mh.runs N (j+1) m)):=by
     unfold Hid
     rw [← h4.g,runs_step,hnn]
     exact hS3.1
    have HH4:Hid (Goes w (w4.setCell ⟨X.g,13,none⟩ (.int .i64 (m.now+j+1))) X X3):=by
     unfold Hid
     rw [← h4.g]
     exact h4.trans (Goes.of_touch hS3.2 (fun b hb=>by subst hb;exact h3.labs.g))
    have hjk:(j:Int)<(k:Int):=by omega
    clear hS h3 h4 hS3 hnn
    go_wp2_with fail
    go_roundw
    case rel=>first | exact ⟨j+1,by omega,by go_num,X3,HH3.out,HH4.out⟩ | ((repeat apply Exists.intro);exact ⟨⟨j+1,by omega,by go_num,X3,HH3.out,HH4.out⟩,rfl⟩)
    case measure=>simp [intOf];omega
   ·
    have ej:j=k:=by omega
    subst ej
    have HH3:Hid _:=hM2
    have HH4:Hid _:=hG2
    clear hM2 hG2
    go_wp2
    go_ret
    exact ⟨ret_int HE.out.symm,X2,by rw [HR.out];exact HH3.out,HH4.out⟩
end Go.Proofs.YtehheaedbnfidaaGreat
