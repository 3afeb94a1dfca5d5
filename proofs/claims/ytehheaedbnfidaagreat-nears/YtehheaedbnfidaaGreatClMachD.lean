import Derived.Test.YtehheaedbnfidaaGreatClWOpenC
set_option maxRecDepth 100000
namespace Go.Proofs.YtehheaedbnfidaaGreat
open Go.RowKit
theorem Tryz.infoEventM:(Tryz.prog.info? 58).map (fun i=>(i.zero,i.size,i.bytes))=some (some (.agg #[.int .i64 0,.int .i64 0,.int .i64 0,.int .i64 0,.int .i64 0,.int .i64 0]),6,48):=by kernel_rfl
theorem XLoc.goesTrace {w w1:World}{N:Cn}{X:XLoc}{d gg cap len:Nat}{v:Value}(L:Labs w N X)(hd:d<N.nd)(hT:Touch (fun b=>∃ o,X.ta d=some ⟨b,o,none⟩) w w1)(hg:X.lab gg=some (13,d)∨w.heap.size≤gg):Goes w (w1.setCell ⟨X.dm,d*4+3,none⟩ v) X (X.traces d gg len cap):=by
 have m1:∀ b,(∃ o,X.ta d=some ⟨b,o,none⟩)→X.mine b:=fun b hb=>by
  obtain ⟨o,hb⟩:=hb
  unfold XLoc.mine;rw [L.tr d hd b o hb];simp
 have m2:X.mine X.dm:=by unfold XLoc.mine;rw [L.dm];simp
 refine ⟨rfl,(hT.mono m1).trans (Touch.setCell _ _ _ _ m2),fun b hb hm=>?_⟩
 by_cases e:b=gg
 ·
  subst e
  rcases hg with hg|hg
  · unfold XLoc.mine;rw [hg];simp
  · omega
 ·
  unfold XLoc.mine XLoc.traces at hm
  simp only [e,if_false] at hm
  exact hm
theorem touch_grown {F:Nat→Prop}{w w1:World}{row:Option Nat}(hg:w.grownBy w1 row)(hF:∀ b,row=some b→F b):Touch F w w1:=⟨hg.os,hg.tape,hg.output,hg.size,fun b hb hf=>hg.block b hb (fun e=>hf (hF b e.symm))⟩
set_option maxHeartbeats 6400000 in
theorem kfinish_any (N:Cn)(X:XLoc)(m:Mh)(k d:Nat)(v f:Int)(w:World)(h:MachM w N X m)(hk:k<N.nc)(hd:d<N.nd)(hdom:(m.wk k).dom=(d:Int))(hn:m.dn d k≤64)(ht:(m.tr d).length≤1000) :
  Calls Tryz.prog 155 #[.pointer (some ⟨X.g,0,none⟩),.int .i64 k,.int .i64 v,.int .i64 f] w fun e w'=>e = .returned (.tuple #[])∧∃ X',MachM w' N X' (m.finish k v f)∧Goes w w' X X':=by
 obtain ⟨i0,hi0,hz0,hz1,hz2⟩:=info_parts Tryz.infoEventM
 obtain ⟨n1,n2,n3,n4,n5,n6,n7,n8,n9,n10,n11,n12,n13,n14,n15⟩:=h.nums
 have c13:w.cell? ⟨X.g,13,none⟩=some (.int .i64 m.now):=by rw [h.row.cell];rfl
 have c18:w.cell? ⟨X.g,18,none⟩=some (.slice (some ⟨X.dm,0,none⟩) N.nd X.dc):=by rw [h.row.cell];rfl
 have c19:w.cell? ⟨X.g,19,none⟩=some (.slice (some ⟨X.ck,0,none⟩) N.nc N.nc):=by rw [h.row.cell];rfl
 obtain ⟨d0,_,_,d3⟩:=dom_at h hd
 obtain ⟨_,p1⟩:=prg_at h hd hk
 obtain ⟨_,k1,k2⟩:=wk_at h.wks hk
 rw [hdom] at k1
 have lg:=h.row.lt
 have ld:=h.dom.lt
 have lp:=(h.prg d hd).lt
 have lk:=h.wks.lt
 have HM:Hid _:=h
 have HDM:Hid _:=hdom
 have hown0:=(h.trc d hd).2
 have htl:=(h.trc d hd).1
 have hrow:=h.row
 have hlab:=h.labs
 have hdr:=h.dom
 have ag:∀ b,(Value.slice (X.ta d) (X.tl d) (X.tc d)).ownBlock=some b→X.lab b=some (13,d):=fun b hb=>by
  rcases hown0.2 with ⟨h3,_⟩|⟨g',cap',cur,hv,_⟩
  · rw [h3] at hb;simp [Value.ownBlock] at hb
  ·
   simp only [Value.slice.injEq] at hv
   rw [hv.1] at hb
   simp [Value.ownBlock] at hb
   subst hb
   exact hlab.tr d hd g' 0 hv.1
 have HAG:Hid _:=ag
 have HOB:Hid (∀ b,(Value.slice (X.ta d) (X.tl d) (X.tc d)).ownBlock=some b→∃ o,X.ta d=some ⟨b,o,none⟩):=fun b hb=>by
  rcases hown0.2 with ⟨h3,_⟩|⟨g',cap',cur,hv,_⟩
  · rw [h3] at hb;simp [Value.ownBlock] at hb
  ·
   simp only [Value.slice.injEq] at hv
   rw [hv.1] at hb
   simp [Value.ownBlock] at hb
   subst hb
   exact ⟨0,hv.1⟩
 have LM:Hid ((m.tr d).length+1≤maxLen):=by unfold Hid maxLen;omega
 have L8:Hid (((m.tr d).length+1)*48≤140737488355328):=by unfold Hid;omega
 have HT:Hid _:=ht
 have HTL:Hid _:=htl
 obtain ⟨dn,hdn⟩:∃ dn,m.dn d k=dn:=⟨_,rfl⟩
 obtain ⟨iss,hiss⟩:∃ a,(m.wk k).issue=a:=⟨_,rfl⟩
 rw [hdn] at p1 hn
 rw [hiss] at k2
 have HDN:Hid _:=hdn
 have HIS:Hid _:=hiss
 clear n1 n2 n3 n4 n5 n6 n7 h hdom hdn hiss ht htl
 go_enter Tryz.func155,Tryz.ntmps155
 go_wp2_with fail
 go_cut [9] (fun ev wx=>ev = .pointer (some ⟨w.heap.size,0,none⟩)∧wx=(w.alloc (.cells #[.int .i64 k,.int .i64 0,.int .i64 v,.int .i64 f,.int .i64 iss,.int .i64 m.now] 58)).drew)
 case first=>
  go_region_with fail
  all_goals go_wp2_with fail
  all_goals go_meet
  all_goals exact ⟨rfl,rfl⟩
 case rest=>
  obtain ⟨rfl,rfl⟩:=hcut
  go_wp2_with fail
  have hW:Row (w.alloc (.cells #[.int .i64 k,.int .i64 dn,.int .i64 v,.int .i64 f,.int .i64 iss,.int .i64 m.now] 58)).drew w.heap.size [.int .i64 k,.int .i64 dn,.int .i64 v,.int .i64 f,.int .i64 iss,.int .i64 m.now] 58:=heap_alloc_new w _
  have hb0:Below w.heap.size w (w.alloc (.cells #[.int .i64 k,.int .i64 dn,.int .i64 v,.int .i64 f,.int .i64 iss,.int .i64 m.now] 58)).drew:=((Below.refl _ _).alloc (Nat.le_refl _) _).drew
  have sz0:(w.alloc (.cells #[.int .i64 k,.int .i64 dn,.int .i64 v,.int .i64 f,.int .i64 iss,.int .i64 m.now] 58)).drew.heap.size=w.heap.size+1:=by simp [World.drew]
  have M1:=HM.out.below hb0 (Nat.le_refl _)
  clear c13 c18 c19 d0 d3 p1 k1 k2 lg ld lp lk hown0 hrow hdr
  generalize (w.alloc (.cells #[.int .i64 k,.int .i64 dn,.int .i64 v,.int .i64 f,.int .i64 iss,.int .i64 m.now] 58)).drew=W at *
  have c18:W.cell? ⟨X.g,18,none⟩=some (.slice (some ⟨X.dm,0,none⟩) N.nd X.dc):=by rw [M1.row.cell];rfl
  obtain ⟨_,_,_,d3⟩:=dom_at M1 hd
  have lg:=M1.row.lt
  have ld:=M1.dom.lt
  have hown1:=(M1.trc d hd).2
  have e0:W.cell? ⟨w.heap.size,0,none⟩=some (.int .i64 k):=hW.cell 0
  have e1:W.cell? ⟨w.heap.size,1,none⟩=some (.int .i64 dn):=hW.cell 1
  have e2:W.cell? ⟨w.heap.size,2,none⟩=some (.int .i64 v):=hW.cell 2
  have e3:W.cell? ⟨w.heap.size,3,none⟩=some (.int .i64 f):=hW.cell 3
  have e4:W.cell? ⟨w.heap.size,4,none⟩=some (.int .i64 iss):=hW.cell 4
  have e5:W.cell? ⟨w.heap.size,5,none⟩=some (.int .i64 m.now):=hW.cell 5
  have le:=hW.lt
  have HR1:=M1.row
  have HD1:=M1.dom
  have fz:=HD1.frozen (d*4+3)
  have hdlab:=M1.labs.dm
  have hglab:=M1.labs.g
  have HM1:Hid _:=M1
  have HB0:Hid _:=hb0
  have HSZ:Hid _:=sz0
  clear hW M1 hb0 sz0
  go_cut [] (fun wx=>∃ gg cap,MachM wx N (X.traces d gg ((m.tr d).length+1) cap) { m with tr:=up1 m.tr d (m.tr d++[⟨k,dn,v,f,iss,m.now⟩]) }∧Goes w wx X (X.traces d gg ((m.tr d).length+1) cap))
  case first=>
   go_region_law
    ((refine step_append_lies _ (by rfl) _ _ _ (by rfl) 0 58 i0 _ 6 48 Tryz.underlying56 hi0 hz0 hz1 hz2 rfl (by omega) (.slice (X.ta d) (X.tl d) (X.tc d)) (m.tr d).length ((m.tr d).flatMap eventL) (by rfl) ((hown1.alloc _).drew) ⟨W.heap.size,0,none⟩ 1 1 [.int .i64 k,.int .i64 dn,.int .i64 v,.int .i64 f,.int .i64 iss,.int .i64 m.now] (by rfl) (by rfl) (World.news_of_block (cs:=#[.int .i64 k,.int .i64 dn,.int .i64 v,.int .i64 f,.int .i64 iss,.int .i64 m.now]) (t:=58) (fr:=(0,0)) (heap_alloc_new W _)) (by simp [Value.oneCell']) (by omega) LM.out L8.out (by omega) (W.heap.size+1) (by simp) ?_;intro gg cap w1 hown2 hgrow hat hlt;have r1:Row w1 X.g (mchL N X m.now) 100:=(hgrow.block X.g (by simp;omega) (fun e=>absurd (HAG.out X.g e.symm) (by rw [hglab];simp))).trans (HR1.alloc _);have r2:Cells w1 X.dm (N.nd*4) 144 (fun i=>domV N X (i / 4) (i%4)):=HD1.same ((hgrow.block X.dm (by simp;omega) (fun e=>absurd (HAG.out X.dm e.symm) (by rw [hdlab];simp))).trans (Below.heap_alloc _ _ _ ld));have g3:w1.frozen? ⟨X.dm,d*4+3,none⟩=false:=r2.frozen _;have k3:w1.cell? ⟨X.dm,d*4+3,none⟩=some (.slice (X.ta d) (X.tl d) (X.tc d)):=by { rw [r2.cell (by omega),show (d*4+3) / 4=d by omega,show (d*4+3)%4=3 by omega];rfl };have k18:w1.cell? ⟨X.g,18,none⟩=some (.slice (some ⟨X.dm,0,none⟩) N.nd X.dc):=r1.cell 18))
   all_goals go_wp2_with fail
   all_goals go_meet
   all_goals
    have hbA:Below W.heap.size W (W.alloc (.cells #[.int .i64 k,.int .i64 dn,.int .i64 v,.int .i64 f,.int .i64 iss,.int .i64 m.now] 58)).drew:=((Below.refl _ _).alloc (Nat.le_refl _) _).drew
    have hT:Touch (fun b=>∃ o,X.ta d=some ⟨b,o,none⟩) W w1:=(Touch.of_below hbA (Nat.le_refl _)).trans (touch_grown hgrow (fun b hb=>HOB.out b hb))
    have hgl:X.lab gg=some (13,d)∨W.heap.size≤gg:=by
     rcases hat with e|e
     · exact Or.inl (HAG.out gg e)
     · exact Or.inr (by omega)
    have hQ:w1.ownsRow 0 58 6 (.slice (some ⟨gg,0,none⟩) (m.tr d++[(⟨k,dn,v,f,iss,m.now⟩:Ev)]).length cap) (m.tr d++[(⟨k,dn,v,f,iss,m.now⟩:Ev)]).length ((m.tr d++[(⟨k,dn,v,f,iss,m.now⟩:Ev)]).flatMap eventL):=by
     rw [List.length_append,List.flatMap_append]
     exact hown2
    have hS:=HM1.out.setTrace hd hT hQ hgl hlt
    have hG:=XLoc.goesTrace (len:=(m.tr d).length+1) (cap:=cap) (v:=.slice (some ⟨gg,0,none⟩) ((m.tr d).length+1) cap) HM1.out.labs hd hT hgl
    rw [List.length_append] at hS
    exact ⟨gg,cap,hS,(Goes.of_below HB0.out).trans hG⟩
  case rest=>
   obtain ⟨gg,cap,M2,G2⟩:=hcut
   have c18:wc.cell? ⟨X.g,18,none⟩=some (.slice (some ⟨X.dm,0,none⟩) N.nd X.dc):=M2.row.cell 18
   have c19:wc.cell? ⟨X.g,19,none⟩=some (.slice (some ⟨X.ck,0,none⟩) N.nc N.nc):=M2.row.cell 19
   have d0:wc.cell? ⟨X.dm,d*4,none⟩=some (.slice (some ⟨X.P d,0,none⟩) N.nc N.nc):=(dom_at M2 hd).1
   have p1:wc.cell? ⟨X.P d,k*2+1,none⟩=some (.int .i64 dn):=by rw [← HDN.out];exact (prg_at M2 hd hk).2
   have k0:wc.cell? ⟨X.ck,k*3,none⟩=some (.bool (m.wk k).busy):=(wk_at M2.wks hk).1
   have fp:wc.frozen? ⟨X.P d,k*2+1,none⟩=false:=(M2.prg d hd).frozen (k*2+1)
   have fk:wc.frozen? ⟨X.ck,k*3,none⟩=false:=M2.wks.frozen (k*3)
   have x1:X.g≠X.P d:=fun e=>by have h1:=M2.labs.g;have h2:=M2.labs.P d hd;have h1':(X.traces d gg ((m.tr d).length+1) cap).lab X.g=some (0,0):=h1;have h2':(X.traces d gg ((m.tr d).length+1) cap).lab (X.P d)=some (8,d):=h2;rw [← e,h1'] at h2';simp at h2'
   have x2:X.ck≠X.P d:=fun e=>by have h1':(X.traces d gg ((m.tr d).length+1) cap).lab X.ck=some (7,0):=M2.labs.ck;have h2':(X.traces d gg ((m.tr d).length+1) cap).lab (X.P d)=some (8,d):=M2.labs.P d hd;rw [← e,h1'] at h2';simp at h2'
   have fk2:X.ck<wc.heap.size:=M2.wks.lt
   have M3:=M2.setDone hd k (dn+1)
   rw [show (((dn+1:Nat):Int))=(dn:Int)+1 by omega] at M3
   have M4:=M3.setWk (w':=(wc.setCell ⟨X.P d,k*2+1,none⟩ (.int .i64 ((dn:Int)+1))).setCell ⟨X.ck,k*3,none⟩ (.bool false)) (Touch.setCell _ _ _ _ rfl) (wk_free M3.wks k)
   have hfin:m.finish k v f={ m with tr:=up1 m.tr d (m.tr d++[⟨k,dn,v,f,iss,m.now⟩]),dn:=up2 m.dn d k (dn+1),wk:=up1 m.wk k ⟨false,(m.wk k).dom,(m.wk k).issue⟩ }:=by
    unfold Mh.finish
    dsimp only
    rw [HDM.out,Int.toNat_natCast,HDN.out,HIS.out]
   have HG:Hid (Goes w ((wc.setCell ⟨X.P d,k*2+1,none⟩ (.int .i64 ((dn:Int)+1))).setCell ⟨X.ck,k*3,none⟩ (.bool false)) X (X.traces d gg ((m.tr d).length+1) cap)):=
    G2.trans ⟨rfl,(Touch.setCell _ _ _ _ (by unfold XLoc.mine;rw [show (X.traces d gg ((m.tr d).length+1) cap).lab (X.P d)=some (8,d) from M2.labs.P d hd];simp)).trans (Touch.setCell _ _ _ _ (by unfold XLoc.mine;rw [show (X.traces d gg ((m.tr d).length+1) cap).lab X.ck=some (7,0) from M2.labs.ck];simp)),fun _ _ hx=>hx⟩
   have HE:Hid (MachM ((wc.setCell ⟨X.P d,k*2+1,none⟩ (.int .i64 ((dn:Int)+1))).setCell ⟨X.ck,k*3,none⟩ (.bool false)) N (X.traces d gg ((m.tr d).length+1) cap) (m.finish k v f)):=by unfold Hid;rw [hfin];exact M4
   clear M2 M3 M4 G2 hfin
   go_wp2
   refine bodyPost_end (results_none rfl _ _ _) rfl ?_
   exact ⟨rfl,_,HE.out,HG.out⟩
end Go.Proofs.YtehheaedbnfidaaGreat
