import Derived.Deep.DeepCutAuto
import Derived.Test.YtehheaedbnfidaaGreatClWRefS4
set_option maxRecDepth 100000
namespace Go.Proofs.YtehheaedbnfidaaGreat
open Go.RowKit
set_option maxHeartbeats 6400000 in
theorem rdone_any (base:Nat)(X:SLoc)(S:So)(k:Nat)(t v f:Int)(w:World)(h:SoloM w base X S)(hk:k<X.n)(hn:X.n≤3)(he:S.evs.length≤90000)(n0:0≤S.next.getD k 0)(n1:S.next.getD k 0≤1000)(t0:0≤t)(t1:t≤100000) :
  Calls Tryz.prog 128 #[.pointer (some ⟨X.gs,0,none⟩),.int .i64 k,.int .i64 t,.int .i64 v,.int .i64 f] w fun x w'=>x = .returned (.tuple #[])∧∃ ea ec,SoloM w' base { X with ea:=ea,el:=S.evs.length+1,ec:=ec } (S.done k t v f)∧Below base w w'∧KeepP w w':=by
 obtain ⟨i0,hi0,hz0,hz1,hz2⟩:=info_parts Tryz.infoEvent
 have lg:=h.row.lt
 have ag:=own_ne h.evs h.row (by decide)
 have an:=own_ne h.evs h.nx (by decide)
 have ab:=own_ne h.evs h.bx (by decide)
 have gn1:X.gn≠X.gs:=fun e=>absurd (row_type (e ▸ h.nx) h.row) (by decide)
 have gb1:X.gb≠X.gs:=fun e=>absurd (row_type (e ▸ h.bx) h.row) (by decide)
 have ln:=h.nx.lt
 have lb:=h.bx.lt
 have hbase:base≤w.heap.size:=by have:=h.bs;omega
 have LM:Hid (S.evs.length+1≤maxLen):=by unfold Hid maxLen;omega
 have L8:Hid ((S.evs.length+1)*48≤140737488355328):=by unfold Hid;omega
 have c3:w.cell? ⟨X.gs,3,none⟩=some (.slice X.ea X.el X.ec):=by rw [h.row.cell];rfl
 have c4:w.cell? ⟨X.gs,4,none⟩=some (.slice (some ⟨X.gn,0,none⟩) X.n X.n):=by rw [h.row.cell];rfl
 have c6:w.cell? ⟨X.gs,6,none⟩=some (.slice (some ⟨X.gb,0,none⟩) X.n X.n):=by rw [h.row.cell];rfl
 have f3:w.frozen? ⟨X.gs,3,none⟩=false:=h.row.frozen 3
 have e4:w.cell? ⟨X.gn,k,none⟩=some (.int .i64 (S.next.getD k 0)):=row_int h.nx (by rw [h.nl];exact hk)
 have e6:w.cell? ⟨X.gb,k,none⟩=some (.int .i64 (S.began.getD k 0)):=row_int h.bx (by rw [h.bl];exact hk)
 have HX:Hid _:=h
 have hown1:=h.evs
 have row1:=h.row
 have nx1:=h.nx
 have bx1:=h.bx
 clear he h
 obtain ⟨nk,hnk⟩:∃ a,S.next.getD k 0=a:=⟨_,rfl⟩
 obtain ⟨bk,hbk⟩:∃ a,S.began.getD k 0=a:=⟨_,rfl⟩
 rw [hnk] at e4 n0 n1
 rw [hbk] at e6
 have HNK:Hid _:=hnk
 have HBK:Hid _:=hbk
 clear hnk hbk
 go_enter Tryz.func128,Tryz.ntmps128
 go_wp2_with fail
 go_cut [] (fun wx=>∃ ea ec,SoloM wx base { X with ea:=ea,el:=S.evs.length+1,ec:=ec } { S with evs:=S.evs++[⟨k,nk,v,f,bk,t⟩] }∧Below base w wx∧KeepP w wx)
 case first=>
  go_region_law
   ((refine step_append_lies _ (by rfl) _ _ _ (by rfl) base 58 i0 _ 6 48 Tryz.underlying56 hi0 hz0 hz1 hz2 rfl (by omega) (.slice X.ea X.el X.ec) S.evs.length (evsL S.evs) (by rfl) ((hown1.alloc _).drew) ⟨w.heap.size,0,none⟩ 1 1 [.int .i64 k,.int .i64 nk,.int .i64 v,.int .i64 f,.int .i64 bk,.int .i64 t] (by rfl) (by rfl) (World.news_of_block (cs:=#[.int .i64 k,.int .i64 nk,.int .i64 v,.int .i64 f,.int .i64 bk,.int .i64 t]) (t:=58) (fr:=(0,0)) (heap_alloc_new w _)) (by simp [Value.oneCell']) (by omega) LM.out L8.out (by simp;omega) (w.heap.size+1) (by simp) ?_;intro gg cap w1 hown2 hgrow hat hlt;have r1:Row w1 X.gs (soloL X) 126:=(hgrow.block X.gs (by simp;omega) (Ne.symm ag)).trans (row1.alloc _);have g3:w1.frozen? ⟨X.gs,3,none⟩=false:=r1.frozen 3;have k3:w1.cell? ⟨X.gs,3,none⟩=some (.slice X.ea X.el X.ec):=r1.cell 3))
  all_goals go_wp2_with fail
  all_goals go_meet
  all_goals
   have hX0:SoloM (w.alloc (.cells #[.int .i64 k,.int .i64 nk,.int .i64 v,.int .i64 f,.int .i64 bk,.int .i64 t] 58)).drew base X S:=(HX.out.below ((Below.refl _ _).alloc (Nat.le_refl _) _) (Nat.le_refl _)).below ((Below.refl _ _).drew) (Nat.le_refl _)
   obtain ⟨g1,g2,g4⟩:=hX0.growE (e:=⟨k,nk,v,f,bk,t⟩) (by have:=hX0.row.lt;have:=hX0.bs;omega) hgrow hown2
   exact ⟨some ⟨gg,0,none⟩,cap,g1,((((Below.refl base w).alloc hbase _)).drew).trans g2,(KeepP.below ((Below.refl _ _).alloc (Nat.le_refl _) _) (Nat.le_refl _)).trans ((KeepP.below ((Below.refl _ _).drew) (Nat.le_refl _)).trans g4)⟩
 case rest=>
  obtain ⟨ea,ec,hS,hB,hKP⟩:=hcut
  have HKP:Hid _:=hKP
  clear hKP
  have d4:wc.cell? ⟨X.gs,4,none⟩=some (.slice (some ⟨X.gn,0,none⟩) X.n X.n):=by rw [hS.row.cell];rfl
  have d5:wc.cell? ⟨X.gs,5,none⟩=some (.slice (some ⟨X.gf,0,none⟩) X.n X.n):=by rw [hS.row.cell];rfl
  have d7:wc.cell? ⟨X.gs,7,none⟩=some (.slice (some ⟨X.gh,0,none⟩) X.n X.n):=by rw [hS.row.cell];rfl
  have u4:wc.cell? ⟨X.gn,k,none⟩=some (.int .i64 nk):=by rw [← HNK.out];exact row_int hS.nx (by rw [hS.nl];exact hk)
  have v4:=hS.nx.frozen k
  have v5:=hS.fx.frozen k
  have v7:=hS.hx.frozen k
  have u5:wc.cell? ⟨X.gf,k,none⟩=some (.int .i64 (S.free.getD k 0)):=row_int hS.fx (by rw [hS.fl];exact hk)
  have u7:wc.cell? ⟨X.gh,k,none⟩=some (.int .i64 (S.how.getD k 0)):=row_int hS.hx (by rw [hS.hl];exact hk)
  have a1:¬X.gs=X.gn:=fun e=>absurd (row_type (e ▸ hS.row) hS.nx) (by decide)
  have a2:¬X.gs=X.gf:=fun e=>absurd (row_type (e ▸ hS.row) hS.fx) (by decide)
  have a3:¬X.gs=X.gh:=fun e=>absurd (row_type (e ▸ hS.row) hS.hx) (by decide)
  have b1:¬X.gn=X.gs:=fun e=>a1 e.symm
  have b2:¬X.gf=X.gs:=fun e=>a2 e.symm
  have b3:¬X.gh=X.gs:=fun e=>a3 e.symm
  obtain ⟨d1,_,d3,_,d5',_⟩:=hS.dis
  have d1':¬X.gf=X.gn:=fun e=>d1 e.symm
  have d3':¬X.gh=X.gn:=fun e=>d3 e.symm
  have d6':¬X.gh=X.gf:=fun e=>d5' e.symm
  have HS2:Hid _:=hS
  have HB2:Hid _:=hB
  have wn:IntKind.i64.wrap (nk+1)=nk+1:=by rw [IntKind.wrap_i64];omega
  clear hS hB
  go_wp2_with fail
  go_region_with fail
  all_goals go_wp2
  all_goals refine bodyPost_end (results_none rfl _ _ _) rfl ?_
  all_goals
   refine ⟨rfl,ea,ec,?_,?_,?_⟩
   ·
    have h3:=(((HS2.out.setN k (nk+1)).setF k (t+1)).setH k 0)
    have h4:=h3.below ((Below.refl _ _).drew) (Nat.le_refl _)
    unfold So.done
    rw [HNK.out,HBK.out]
    exact h4
   · exact (((HB2.out.setCell HS2.out.nb _).setCell HS2.out.fb _).setCell HS2.out.hb _).drew
   ·
    have h1:=HS2.out.setN k (nk+1)
    have h2:=h1.setF k (t+1)
    exact KeepP.trans HKP.out ((KeepP.setCell HS2.out.nx (by decide) _ _).trans ((KeepP.setCell h1.fx (by decide) _ _).trans ((KeepP.setCell h2.hx (by decide) _ _).trans (KeepP.below ((Below.refl _ _).drew) (Nat.le_refl _)))))
end Go.Proofs.YtehheaedbnfidaaGreat
