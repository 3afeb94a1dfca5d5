import Derived.ArgAppend
import Derived.Test.YtehheaedbnfidaaGreatClWMachG
set_option maxRecDepth 100000
namespace Go.Proofs.YtehheaedbnfidaaGreat
open Go.RowKit
theorem SoloM.storeQ {w:World}{base:Nat}{X:SLoc}{S:So}(h:SoloM w base X S)(q':List Int)(qa':Option Addr)(ql' qc':Nat)(hq:QAt w base { X with qa:=qa',ql:=ql',qc:=qc' } q') :
  SoloM (w.setCell ⟨X.gs,8,none⟩ (.slice qa' ql' qc')) base { X with qa:=qa',ql:=ql',qc:=qc' } { S with queue:=q' }∧Below base w (w.setCell ⟨X.gs,8,none⟩ (.slice qa' ql' qc'))∧KeepP w (w.setCell ⟨X.gs,8,none⟩ (.slice qa' ql' qc')):=by
 have n1:∀ {g A t},Row w g A t→t≠126→Row (w.setCell ⟨X.gs,8,none⟩ (.slice qa' ql' qc')) g A t:=fun hr ht=>
  hr.setCellOther _ _ (fun e=>by subst e;exact ht (row_type hr h.row))
 exact ⟨⟨h.row.setCell 8 _,h.bs,owns_same h.log fun g hg=>Below.heap_setCell _ _ _ _ (fun e=>by subst e;exact own_ne h.log h.row (by decide) hg),h.ll,owns_same h.evs fun g hg=>Below.heap_setCell _ _ _ _ (fun e=>by subst e;exact own_ne h.evs h.row (by decide) hg),h.el,n1 h.nx (by decide),h.nl,h.nb,n1 h.fx (by decide),h.fl,h.fb,n1 h.bx (by decide),h.bl,h.bb,n1 h.hx (by decide),h.hl,h.hb,h.dis,hq.same fun g A hr=>n1 hr (by decide)⟩,(Below.refl base w).setCell h.bs _,KeepP.setCell h.row (by decide) _ _⟩
theorem SoloM.pushRoom {w:World}{base:Nat}{X:SLoc}{S:So}{g off:Nat}{cur:List Value}(h:SoloM w base X S)(k:Int)(e1:X.qa=some ⟨g,off,none⟩)(a2:base≤g)(a3:Row w g cur 3)(a4:X.ql<X.qc)(a5:X.qc≤maxLen)(a6:off+X.qc≤cur.length)
  (a7:∀ i,i<X.ql→cur[off+i]? = some (.int .i64 (S.queue.getD i 0))) (b1:g≠X.gn) (b2:g≠X.gf) (b3:g≠X.gb) (b4:g≠X.gh) :
  SoloM ((w.setCell ⟨g,off+X.ql,none⟩ (.int .i64 k)).setCell ⟨X.gs,8,none⟩ (.slice (some ⟨g,off,none⟩) (X.ql+1) X.qc)) base { X with qa:=some ⟨g,off,none⟩,ql:=X.ql+1,qc:=X.qc } { S with queue:=S.queue++[k] }
  ∧Below base w ((w.setCell ⟨g,off+X.ql,none⟩ (.int .i64 k)).setCell ⟨X.gs,8,none⟩ (.slice (some ⟨g,off,none⟩) (X.ql+1) X.qc)):=by
 have n1:∀ {g' A t},Row w g' A t→g'≠g→Row (w.setCell ⟨g,off+X.ql,none⟩ (.int .i64 k)) g' A t:=fun hr ht=>hr.setCellOther _ _ ht
 have n2:∀ {g' A t},Row w g' A t→t≠3→Row (w.setCell ⟨g,off+X.ql,none⟩ (.int .i64 k)) g' A t:=fun hr ht=>hr.setCellOther _ _ (fun e=>by subst e;exact ht (row_type hr a3))
 have own:Row (w.setCell ⟨g,off+X.ql,none⟩ (.int .i64 k)) g (cur.set (off+X.ql) (.int .i64 k)) 3:=a3.setCell _ _
 have h1:SoloM (w.setCell ⟨g,off+X.ql,none⟩ (.int .i64 k)) base X S:=by
  refine ⟨n2 h.row (by decide),h.bs,owns_same h.log fun g hg=>Below.heap_setCell _ _ _ _ (fun e=>by subst e;exact own_ne h.log a3 (by decide) hg),h.ll,owns_same h.evs fun g hg=>Below.heap_setCell _ _ _ _ (fun e=>by subst e;exact own_ne h.evs a3 (by decide) hg),h.el,n1 h.nx (Ne.symm b1),h.nl,h.nb,n1 h.fx (Ne.symm b2),h.fl,h.fb,n1 h.bx (Ne.symm b3),h.bl,h.bb,n1 h.hx (Ne.symm b4),h.hl,h.hb,h.dis,h.q.1,Or.inr ⟨g,off,_,e1,a2,own,by omega,a5,by rw [List.length_set];exact a6,fun i hi=>?_,b1,b2,b3,b4⟩⟩
  rw [List.getElem?_set_ne (by omega)]
  exact a7 i hi
 have hl:=h.q.1
 have hQ:QAt (w.setCell ⟨g,off+X.ql,none⟩ (.int .i64 k)) base { X with qa:=some ⟨g,off,none⟩,ql:=X.ql+1,qc:=X.qc } (S.queue++[k]):=by
  refine ⟨by show X.ql+1=_;simp [hl],Or.inr ⟨g,off,_,rfl,a2,own,by show X.ql+1≤X.qc;omega,a5,by rw [List.length_set];exact a6,fun i hi=>?_,b1,b2,b3,b4⟩⟩
  have hi2:i<X.ql+1:=hi
  by_cases hi3:i<X.ql
  ·
   rw [List.getElem?_set_ne (by omega),a7 i hi3]
   simp only [List.getD_eq_getElem?_getD]
   rw [List.getElem?_append_left (by omega)]
  ·
   have ei:i=X.ql:=by omega
   subst ei
   rw [List.getElem?_set_self (by omega)]
   simp only [List.getD_eq_getElem?_getD]
   rw [hl,List.getElem?_append_right (Nat.le_refl _)]
   simp
 obtain ⟨r1,r2,_⟩:=h1.storeQ _ _ _ _ hQ
 exact ⟨r1,((Below.refl base w).setCell (p:=⟨g,off+X.ql,none⟩) a2 _).trans r2⟩
theorem SoloM.pushGrow {w w1:World}{base gg cap:Nat}{X:SLoc}{S:So}(h:SoloM w base X S)(hb:base≤w.heap.size)(k:Int)(hg:w.grownBy w1 none)(ho:w1.ownsRow w.heap.size 3 1 (.slice (some ⟨gg,0,none⟩) (X.ql+1) cap) (X.ql+1) (S.queue.map (Value.int .i64)++[.int .i64 k])) :
  SoloM (w1.setCell ⟨X.gs,8,none⟩ (.slice (some ⟨gg,0,none⟩) (X.ql+1) cap)) base { X with qa:=some ⟨gg,0,none⟩,ql:=X.ql+1,qc:=cap } { S with queue:=S.queue++[k] }
  ∧Below base w (w1.setCell ⟨X.gs,8,none⟩ (.slice (some ⟨gg,0,none⟩) (X.ql+1) cap)):=by
 have hB:Below w.heap.size w w1:=below_grown (Below.refl _ w) (Nat.le_refl _) hg (fun g hg=>by simp at hg)
 have h1:=h.below hB (Nat.le_refl _)
 have hl:=h.q.1
 have hgl:=owns_lt ho gg rfl
 have hge:w.heap.size≤gg:=hgl.2
 have l1:=h.nx.lt
 have l2:=h.fx.lt
 have l3:=h.bx.lt
 have l4:=h.hx.lt
 obtain ⟨h1',h2⟩:=ho
 rcases h2 with ⟨h3,_⟩|⟨g',cap',cur,hv,_,hh,hn',hm,hs,ht⟩
 · cases h3
 ·
  simp only [Value.slice.injEq,Option.some.injEq,Addr.mk.injEq] at hv
  obtain ⟨⟨rfl,_⟩,_,rfl⟩:=hv
  have hr:Row w1 gg cur.toList 3:=by unfold Row;simpa using hh
  have hQ:QAt w1 base { X with qa:=some ⟨gg,0,none⟩,ql:=X.ql+1,qc:=cap } (S.queue++[k]):=by
   refine ⟨by show X.ql+1=_;simp [hl],Or.inr ⟨gg,0,cur.toList,rfl,Nat.le_trans hb hge,hr,hn',hm,by simp [hs],fun i hi=>?_,by show gg≠X.gn;omega,by show gg≠X.gf;omega,by show gg≠X.gb;omega,by show gg≠X.gh;omega⟩⟩
   have hi2:i<X.ql+1:=hi
   have hlt:i<(S.queue++[k]).length:=by simp;omega
   have h4:(cur.toList.take ((X.ql+1)*1))[i]? = some (.int .i64 ((S.queue++[k]).getD i 0)):=by
    rw [ht,show S.queue.map (Value.int .i64)++[.int .i64 k]=(S.queue++[k]).map (Value.int .i64) by simp,List.getElem?_map,List.getD_eq_getElem?_getD,List.getElem?_eq_getElem hlt]
    rfl
   rw [List.getElem?_take,if_pos (by omega)] at h4
   rw [Nat.zero_add]
   exact h4
  obtain ⟨r1,r2,_⟩:=h1.storeQ _ _ _ _ hQ
  exact ⟨r1,(hB.mono hb).trans r2⟩
theorem wpList_push {ops:Array Oper}{rest:List Oper}{o:Oper}{a:Act}{Q:Exit→Act→World→Prop}(W:World)(base:Nat)(X:SLoc)(S:So)(k:Int)(h:SoloM W base X S)(hl:X.ql≤3)
  (hg:o.guard=none) (s x:Operand) (hop:o.op=Op.call { callee:=Callee.builtin Builtin.append,args:=#[s,x],argTypes:=#[25,25] })
  (hs:a.eval s = .slice X.qa X.ql X.qc) (ad:Addr) (hx:a.eval x = .slice (some ad) 1 1) (hc:∀ j u,[Value.int .i64 k][j]? = some u→W.cell? (ad.add j)=some u)
  (hK:∀ qa qc w',w'.cell? ⟨X.gs,8,none⟩=some (.slice X.qa X.ql X.qc)→w'.frozen? ⟨X.gs,8,none⟩=false→SoloM (w'.setCell ⟨X.gs,8,none⟩ (.slice qa (X.ql+1) qc)) base { X with qa:=qa,ql:=X.ql+1,qc:=qc } { S with queue:=S.queue++[k] }→Below base W (w'.setCell ⟨X.gs,8,none⟩ (.slice qa (X.ql+1) qc))→wpList Tryz.prog ops Q rest (a.put o.dst (.slice qa (X.ql+1) qc)) w') :
  wpList Tryz.prog ops Q (o::rest) a W:=by
 obtain ⟨i0,hi0,hz0,hz1,hz2⟩:=info_parts Tryz.infoInt
 have hbase:base≤W.heap.size:=by have:=h.bs;have:=h.row.lt;omega
 obtain ⟨q1,q2⟩:=h.q
 by_cases a4:X.ql+1≤X.qc
 ·
  rcases q2 with ⟨_,q2,_⟩ | ⟨gq,off,cur,q3,q4,q5,q6,q7,q9,q10,b1,b2,b3,b4⟩
  · omega
  have hgg:X.gs≠gq:=fun e=>by
   rw [← e] at q5
   exact absurd (row_type h.row q5) (by decide)
  have RR:=h.row.setCellOther (off+X.ql) (.int .i64 k) hgg
  have hsp:∀ j,j<[Value.int .i64 k].length→(W.cell? ⟨gq,off+X.ql*1+j,none⟩).isSome=true∧W.frozen? ⟨gq,off+X.ql*1+j,none⟩=false:=fun j hj=>by
   have ej:j=0:=by simpa using hj
   subst ej
   refine ⟨?_,q5.frozen _⟩
   rw [q5.cell,List.getElem?_eq_getElem (show off+X.ql*1+0<cur.length by omega)]
   rfl
  rw [q3] at hs
  have hrun:=run_append_room_cells (P:=Tryz.prog) W 25 o.type 3 i0 Tryz.underlying25 hi0 gq off X.ql X.qc ad 1 1 [.int .i64 k] (by rw [hz1];rfl) hc (by simp [Value.oneCell']) a4 (fun j hj=>by rw [hz1];exact (hsp j hj).1) (fun j hj=>by rw [hz1];exact (hsp j hj).2)
  obtain ⟨p1,p2⟩:=h.pushRoom k q3 q4 q5 (by omega) q7 q9 q10 b1 b2 b3 b4
  refine wpList_plain hg fun K hK'=>?_
  unfold Oper.wp
  simp [execOp,hop,resolve,invoke,builtin,hs,hx,hrun,Result.andThen]
  rw [hz1,Nat.mul_one]
  refine hK' _ _ (hK (some ⟨gq,off,none⟩) X.qc _ ?_ ?_ p1 p2)
  · exact RR.cell 8
  · exact RR.frozen 8
 ·
  have q1':X.ql=S.queue.length:=q1
  have hnone:X.qa=none→X.ql=0∧X.qc=0:=fun e=>by
   rcases q2 with ⟨_,q2,q3⟩|⟨gq,off,cur,q3,_⟩
   · exact ⟨by rw [q1',q3];rfl,q2⟩
   · rw [e] at q3;cases q3
  have hlo:(S.queue.map (Value.int .i64)).length=X.ql*1:=by rw [List.length_map,q1'];omega
  have holds:∀ b,X.qa=some b→∀ j u,(S.queue.map (Value.int .i64))[j]? = some u→W.cell? (b.add j)=some u:=fun b eb j u hj=>by
   rcases q2 with ⟨q3,_⟩|⟨gq,off,cur,q3,q4,q5,q6,q7,q9,q10,_⟩
   · rw [eb] at q3;cases q3
   ·
    rw [eb] at q3
    simp only [Option.some.injEq] at q3
    subst q3
    have hjl:j<S.queue.length:=by
     have:=(List.getElem?_eq_some_iff.1 hj).1
     simpa using this
    rw [add_plain',q5.cell,q10 j (by rw [q1'];exact hjl)]
    rw [List.getElem?_map,List.getElem?_eq_getElem hjl] at hj
    rw [← hj,List.getD_eq_getElem?_getD,List.getElem?_eq_getElem hjl]
    rfl
  refine wpList_append_grows W hg s x 25 hop 3 i0 (.int .i64 0) 1 8 Tryz.underlying25 hi0 hz0 hz1 hz2 rfl (by decide) X.qa X.ql X.qc (S.queue.map (Value.int .i64)) hs hnone hlo holds ad 1 1 [.int .i64 k] hx rfl hc (by simp [Value.oneCell']) (by omega) (by unfold maxLen;omega) (by omega) (fun v' w' hown hgrow=>?_)
  obtain ⟨gg,cap,rfl,hgb,hgl⟩:=World.ownsRow.form hown (by omega)
  have RR:=h.row.same (hgrow.block X.gs h.row.lt (by simp))
  obtain ⟨p1,p2⟩:=h.pushGrow hbase k hgrow hown
  exact hK (some ⟨gg,0,none⟩) cap w' (RR.cell 8) (RR.frozen 8) p1 p2
end Go.Proofs.YtehheaedbnfidaaGreat
namespace Go.Proofs.YtehheaedbnfidaaGreat
structure Nm (c:Cf)(N:Cn):Prop where
 right:chk c=0
 nc:(N.nc:Int)=c.cores
 nd:(N.nd:Int)=c.domains
 nn:(N.nn:Int)=c.near
 ns:(N.ns:Int)=c.sets
 ln:(N.ln:Int)=c.line
 pv:(N.pv:Int)=c.priv
 sn:(N.sn:Int)=c.shared
 wn:∀ d,N.wn d=c.ways.count (d:Int)
 c0:0<N.nc
 n0:0<N.nn
 s0:0<N.ns
 l0:0<N.ln
 l4:N.ln≤4
 dp:∃ p,N.pv=p*N.ln
 ds:∃ q,N.pv+N.sn=q*N.ln
theorem nm_of {c:Cf}(hc:chk c=0):Nm c (cnOf c):=by
 have h:=(chk_zero hc).1
 have hb:=shape_bounds h
 simp only [shapeB,wordsB,Bool.and_eq_true,within_iff,small_iff,beq_iff_eq] at h
 have e1:(cnOf c).nc=c.cores.toNat:=rfl
 have e2:(cnOf c).nd=c.domains.toNat:=rfl
 have e3:(cnOf c).nn=c.near.toNat:=rfl
 have e4:(cnOf c).ns=c.sets.toNat:=rfl
 have e5:(cnOf c).ln=c.line.toNat:=rfl
 have e6:(cnOf c).pv=c.priv.toNat:=rfl
 have e7:(cnOf c).sn=c.shared.toNat:=rfl
 obtain ⟨_,⟨⟨⟨⟨_,_⟩,_⟩,hp⟩,hs⟩⟩:=h
 refine ⟨hc,by omega,by omega,by omega,by omega,by omega,by omega,by omega,fun _=>rfl,by omega,by omega,by omega,by omega,by omega,⟨c.priv.toNat / c.line.toNat,?_⟩,⟨(c.priv.toNat+c.shared.toNat) / c.line.toNat,?_⟩⟩
 ·
  have m0:c.priv.toNat%c.line.toNat=0:=by
   have:((c.priv.toNat%c.line.toNat:Nat):Int)=0:=by
    rw [Int.natCast_emod,Int.toNat_of_nonneg (by omega),Int.toNat_of_nonneg (by omega)];exact hp
   omega
  rw [e6,e5]
  exact (Nat.div_mul_cancel (Nat.dvd_of_mod_eq_zero m0)).symm
 ·
  have m0:(c.priv.toNat+c.shared.toNat)%c.line.toNat=0:=by
   have:(((c.priv.toNat+c.shared.toNat)%c.line.toNat:Nat):Int)=0:=by
    rw [Int.natCast_emod,Int.natCast_add,Int.toNat_of_nonneg (by omega),Int.toNat_of_nonneg (by omega),Int.toNat_of_nonneg (by omega)]
    rw [Int.add_emod,hp,hs];simp
   omega
  rw [e6,e7,e5]
  exact (Nat.div_mul_cancel (Nat.dvd_of_mod_eq_zero m0)).symm
structure RelL (c:Cf)(N:Cn)(first:Int→Int)(d:Nat)(t:Int)(blk:Nat→Nat→Bk)(tch:Nat→List Int)(own:Nat→Int)(nr:Nat→Nat→Cp)(sh:Nat→Int)(L:List Ent):Prop where
 far:FarR c N.ns (N.wn d) N.ln first blk L
 tch:∀ s:Nat,s<N.ns→SameTouch (tch s) (touchedF c s L)
 mem:MemR N.pv N.ln first own L
 near:NearR c N.nn N.nc nr d t L
 inc:Inc c N.nc t L
 lt:LogTurn c N.nc d t L
 emp:∀ s j,s<N.ns→j<N.wn d→(blk s j).line=-1→(blk s j).mkd=false
 sh:∀ a:Nat,N.pv≤a→a<N.pv+N.sn→sh (a-N.pv)=first a
theorem up2_up2 {α:Type}(f:Nat→Nat→α)(i j:Nat)(v w:α):up2 (up2 f i j v) i j w=up2 f i j w:=by
 funext a b
 unfold up2
 by_cases h:a=i∧b=j
 · rw [if_pos h,if_pos h]
 · rw [if_neg h,if_neg h,if_neg h]
theorem read_words {c:Cf}{N:Cn}{first:Int→Int}{own:Nat→Int}{sh:Nat→Int}{L:List Ent}(hN:Nm c N)(hm:MemR N.pv N.ln first own L)(hsh:∀ a:Nat,N.pv≤a→a<N.pv+N.sn→sh (a-N.pv)=first a){x:Nat}(hx:x*N.ln<N.pv+N.sn)(hn:whereF x L<0)(i:Nat)(hi:i<N.ln):readM N.pv N.sn N.ln own sh x i=wordF ((x:Int)*N.ln+i) (first ((x:Int)*N.ln+i)) L:=by
 have hl4:=hN.l4
 have hl0:=hN.l0
 have hdiv:(x*N.ln+i) / N.ln=x:=by
  rw [Nat.mul_comm,Nat.mul_add_div hl0,Nat.div_eq_of_lt hi];omega
 have hlt:x*N.ln+i<N.pv+N.sn:=by
  obtain ⟨q,hq⟩:=hN.ds
  rw [hq] at hx ⊢
  have hxq:x<q:=Nat.lt_of_mul_lt_mul_right hx
  have:(x+1)*N.ln≤q*N.ln:=Nat.mul_le_mul_right _ hxq
  rw [Nat.succ_mul] at this
  omega
 have cast:((x:Int)*N.ln+i)=((x*N.ln+i:Nat):Int):=by rw [Int.natCast_add,Int.natCast_mul]
 rw [cast]
 unfold readM
 rw [if_pos ⟨hi,by omega⟩]
 unfold wordM
 by_cases g:x*N.ln+i<N.pv
 ·
  rw [if_pos g]
  exact hm.cln _ g (Or.inl (by rw [hdiv];exact hn))
 ·
  rw [if_neg g,if_pos (by omega),hm.shw _ (by omega)]
  exact hsh _ (by omega) hlt
theorem set_cast {c:Cf}{N:Cn}(hN:Nm c N)(x:Nat):(x:Int)%c.sets=((x%N.ns:Nat):Int):=by rw [← hN.ns];simp
theorem RelL.fill {c:Cf}{N:Cn}{first:Int→Int}{d:Nat}{t:Int}{blk:Nat→Nat→Bk}{tch:Nat→List Int}{own:Nat→Int}{nr:Nat→Nat→Cp}{sh:Nat→Int}{L:List Ent}(hN:Nm c N)(h:RelL c N first d t blk tch own nr sh L){x r:Nat}(hr:r<N.wn d)(he:(blk (x%N.ns) r).line=-1)(hx:x*N.ln<N.pv+N.sn)(hno:wayF (blk (x%N.ns)) (N.wn d) x=-1) :
  RelL c N first d t (up2 blk (x%N.ns) r ⟨x,false,readM N.pv N.sn N.ln own sh x⟩) tch own nr sh (⟨t,1,0,x,r,false,false,0,0⟩::L):=by
 have R:=right_of hN.right
 have hw:whereF x L<0:=by rw [h.far.wh x,hno];omega
 refine ⟨h.far.fill hN.ns hN.s0 hr he hno (fun i hi=>read_words hN h.mem h.sh hx hw i hi),fun s hs=>by rw [touched_other (by simp)];exact h.tch s hs,h.mem.fill rfl rfl hw,h.near.fill R rfl rfl,h.inc.fill R rfl rfl (by show (0:Int)≤r;omega),h.lt.far rfl (by simp) (by simp),fun s j hs hj hl=>?_,h.sh⟩
 by_cases g:s=x%N.ns∧j=r
 ·
  have:up2 blk (x%N.ns) r ⟨x,false,readM N.pv N.sn N.ln own sh x⟩ s j=⟨x,false,readM N.pv N.sn N.ln own sh x⟩:=by simp [up2,g]
  rw [this]
 ·
  have:up2 blk (x%N.ns) r ⟨x,false,readM N.pv N.sn N.ln own sh x⟩ s j=blk s j:=by simp [up2,g]
  rw [this] at hl ⊢
  exact h.emp s j hs hj hl
theorem RelL.gone {c:Cf}{N:Cn}{first:Int→Int}{d:Nat}{t:Int}{blk:Nat→Nat→Bk}{tch:Nat→List Int}{own own':Nat→Int}{nr:Nat→Nat→Cp}{sh:Nat→Int}{L:List Ent}(hN:Nm c N)(h:RelL c N first d t blk tch own nr sh L){y r:Nat}(hr:r<N.wn d)(he:(blk (y%N.ns) r).line=y)(ho:∀ a,a<N.pv→a / N.ln=y→own' a=wordF a (first a) L)(hk:∀ a,a<N.pv→a / N.ln≠y→own' a=own a) :
  RelL c N first d t (up2 blk (y%N.ns) r bkE) tch own' (dropAllN (fun j=>decide (j<N.nc)) N.nn nr d y) sh (⟨t,2,0,y,r,false,false,0,0⟩::L):=by
 have R:=right_of hN.right
 refine ⟨h.far.gone hN.ns hN.s0 hr he,fun s hs=>by rw [touched_other (by simp)];exact h.tch s hs,h.mem.gone rfl rfl ho hk,h.near.gone R rfl rfl rfl,h.inc.gone R rfl rfl,h.lt.far rfl (by simp) (by simp),fun s j hs hj hl=>?_,h.sh⟩
 by_cases g:s=y%N.ns∧j=r
 ·
  have:up2 blk (y%N.ns) r bkE s j=bkE:=by simp [up2,g]
  rw [this];rfl
 ·
  have:up2 blk (y%N.ns) r bkE s j=blk s j:=by simp [up2,g]
  rw [this] at hl ⊢
  exact h.emp s j hs hj hl
theorem touch_one {c:Cf}{N:Cn}{tch:Nat→List Int}{L:List Ent}(hN:Nm c N)(h:∀ s:Nat,s<N.ns→SameTouch (tch s) (touchedF c s L)){e:Ent}{x:Nat}(hw:e.what=3)(hx:e.line=x):∀ s:Nat,s<N.ns→SameTouch (up1 tch (x%N.ns) (touchF (tch (x%N.ns)) e.way) s) (touchedF c s (e::L)):=fun s hs=>by
 rw [touched_hand hw,hx,set_cast hN]
 by_cases g:s=x%N.ns
 ·
  subst g
  rw [if_pos rfl]
  have:up1 tch (x%N.ns) (touchF (tch (x%N.ns)) e.way) (x%N.ns)=touchF (tch (x%N.ns)) e.way:=by simp [up1]
  rw [this]
  exact (h _ hs).touch _
 ·
  rw [if_neg (by omega)]
  have:up1 tch (x%N.ns) (touchF (tch (x%N.ns)) e.way) s=tch s:=by simp [up1,g]
  rw [this]
  exact h s hs
theorem RelL.load {c:Cf}{N:Cn}{first:Int→Int}{d:Nat}{t:Int}{blk:Nat→Nat→Bk}{tch:Nat→List Int}{own:Nat→Int}{nr:Nat→Nat→Cp}{sh:Nat→Int}{L:List Ent}(hN:Nm c N)(h:RelL c N first d t blk tch own nr sh L){k x:Nat}{a way:Int}(hk:k<N.nc)(hway:0≤whereF x L)(ht1:turnZ c k t=d)(ht2:t%c.quantum<c.quantum-c.flush) :
  RelL c N first d t blk (up1 tch (x%N.ns) (touchF (tch (x%N.ns)) way)) own (putN N.nn (shareAllN (fun j=>decide (j<N.nc∧j≠k)) N.nn nr d x) k d x (if foundN N.nn nr k d x N.nc=true∨c.priv≤a then 1 else 2)) sh (⟨t,3,k,x,way,false,loneF c k x t L N.nc 0&&decide (a<c.priv),0,0⟩::L):=by
 have R:=right_of hN.right
 exact ⟨h.far.other (by simp) (by simp) (by simp),touch_one (e:=⟨t,3,k,x,way,false,loneF c k x t L N.nc 0&&decide (a<c.priv),0,0⟩) hN h.tch rfl rfl,h.mem.other (by simp) (by simp) (by simp),h.near.handLoad R hN.nn rfl rfl rfl rfl rfl rfl,h.inc.hand R rfl rfl hway,h.lt.core rfl hk rfl ht1 ht2,h.emp,h.sh⟩
theorem emp_store {N:Cn}{d:Nat}{blk:Nat→Nat→Bk}{s r:Nat}{x:Nat}{g:Nat→Int}(h:∀ s j,s<N.ns→j<N.wn d→(blk s j).line=-1→(blk s j).mkd=false):∀ s' j,s'<N.ns→j<N.wn d→(up2 blk s r ⟨x,true,g⟩ s' j).line=-1→(up2 blk s r ⟨x,true,g⟩ s' j).mkd=false:=fun s' j hs hj hl=>by
 by_cases q:s'=s∧j=r
 ·
  have:up2 blk s r ⟨x,true,g⟩ s' j=⟨x,true,g⟩:=by simp [up2,q]
  rw [this] at hl
  have:(x:Int)=-1:=hl
  omega
 ·
  have:up2 blk s r ⟨x,true,g⟩ s' j=blk s' j:=by simp [up2,q]
  rw [this] at hl ⊢
  exact h s' j hs hj hl
theorem RelL.store {c:Cf}{N:Cn}{first:Int→Int}{d:Nat}{t:Int}{blk:Nat→Nat→Bk}{tch:Nat→List Int}{own:Nat→Int}{nr:Nat→Nat→Cp}{sh:Nat→Int}{L:List Ent}(hN:Nm c N)(h:RelL c N first d t blk tch own nr sh L){k a r:Nat}{v w2:Int}(hk:k<N.nc)(ha:a<N.pv)(hr:r<N.wn d)(hl:(blk (a / N.ln%N.ns) r).line=((a / N.ln:Nat):Int))(hway:0≤whereF ((a / N.ln:Nat):Int) L)(ht1:turnZ c k t=d)(ht2:t%c.quantum<c.quantum-c.flush) :
  RelL c N first d t (up2 blk (a / N.ln%N.ns) r ⟨((a / N.ln:Nat):Int),true,up1 (blk (a / N.ln%N.ns) r).wd (a-a / N.ln*N.ln) v⟩) (up1 tch (a / N.ln%N.ns) (touchF (tch (a / N.ln%N.ns)) r)) own (putN N.nn (dropAllN (fun j=>decide (j<N.nc∧j≠k)) N.nn nr d (a / N.ln)) k d (a / N.ln) 3) sh (⟨t,4,k,((a / N.ln:Nat):Int),w2,false,false,a,v⟩::⟨t,3,k,((a / N.ln:Nat):Int),r,true,false,0,0⟩::L):=by
 have R:=right_of hN.right
 have hi:a-a / N.ln*N.ln<N.ln:=by
  have h1:=Nat.mod_add_div a N.ln
  have h2:=Nat.mod_lt a hN.l0
  have h3:N.ln*(a / N.ln)=a / N.ln*N.ln:=Nat.mul_comm _ _
  omega
 have hai:(a:Int)=((a / N.ln:Nat):Int)*N.ln+((a-a / N.ln*N.ln:Nat):Int):=by
  have:=Nat.div_mul_le_self a N.ln
  rw [← Int.natCast_mul,← Int.natCast_add]
  congr 1
  omega
 refine ⟨(h.far.other (e:=⟨t,3,k,((a / N.ln:Nat):Int),r,true,false,0,0⟩) (by simp) (by simp) (by simp)).store (e:=⟨t,4,k,((a / N.ln:Nat):Int),w2,false,false,a,v⟩) hN.s0 hr hl hi rfl rfl hai,fun s hs=>by rw [touched_other (by simp)];exact touch_one hN h.tch (e:=⟨t,3,k,((a / N.ln:Nat):Int),r,true,false,0,0⟩) rfl rfl s hs,(h.mem.other (e:=⟨t,3,k,((a / N.ln:Nat):Int),r,true,false,0,0⟩) (by simp) (by simp) (by simp)).store rfl rfl rfl ha ?_,h.near.handStore R hN.nn rfl rfl rfl rfl rfl rfl rfl rfl rfl,(h.inc.hand (e:=⟨t,3,k,((a / N.ln:Nat):Int),r,true,false,0,0⟩) R rfl rfl hway).store R rfl rfl ?_,(h.lt.core (e:=⟨t,3,k,((a / N.ln:Nat):Int),r,true,false,0,0⟩) rfl hk rfl ht1 ht2).core rfl hk rfl ht1 ht2,emp_store h.emp,h.sh⟩
 · rw [whereF_far (by simp) (by simp)];exact hway
 · rw [whereF_far (by simp) (by simp)];exact hway
theorem RelL.hit {c:Cf}{N:Cn}{first:Int→Int}{d:Nat}{t:Int}{blk:Nat→Nat→Bk}{tch:Nat→List Int}{own:Nat→Int}{nr:Nat→Nat→Cp}{sh:Nat→Int}{L:List Ent}(hN:Nm c N)(h:RelL c N first d t blk tch own nr sh L){k a r:Nat}{v w2:Int}(hk:k<N.nc)(ha:a<N.pv)(hr:r<N.wn d)(hl:(blk (a / N.ln%N.ns) r).line=((a / N.ln:Nat):Int))(hs:stateN N.nn nr k d (a / N.ln)≠0)(ht1:turnZ c k t=d)(ht2:t%c.quantum<c.quantum-c.flush) :
  RelL c N first d t (up2 blk (a / N.ln%N.ns) r ⟨((a / N.ln:Nat):Int),true,up1 (blk (a / N.ln%N.ns) r).wd (a-a / N.ln*N.ln) v⟩) tch own (putN N.nn nr k d (a / N.ln) 3) sh (⟨t,4,k,((a / N.ln:Nat):Int),w2,false,false,a,v⟩::L):=by
 have R:=right_of hN.right
 have hi:a-a / N.ln*N.ln<N.ln:=by
  have h1:=Nat.mod_add_div a N.ln
  have h2:=Nat.mod_lt a hN.l0
  have h3:N.ln*(a / N.ln)=a / N.ln*N.ln:=Nat.mul_comm _ _
  omega
 have hai:(a:Int)=((a / N.ln:Nat):Int)*N.ln+((a-a / N.ln*N.ln:Nat):Int):=by
  have:=Nat.div_mul_le_self a N.ln
  rw [← Int.natCast_mul,← Int.natCast_add]
  congr 1
  omega
 have hway:0≤whereF ((a / N.ln:Nat):Int) L:=h.inc k _ hk (by rw [← h.near k _ hk];exact hs)
 exact ⟨h.far.store (e:=⟨t,4,k,((a / N.ln:Nat):Int),w2,false,false,a,v⟩) hN.s0 hr hl hi rfl rfl hai,fun s hs=>by rw [touched_other (by simp)];exact h.tch s hs,h.mem.store rfl rfl rfl ha hway,h.near.hitStore R rfl rfl rfl rfl hs,h.inc.store R rfl rfl hway,h.lt.core rfl hk rfl ht1 ht2,emp_store h.emp,h.sh⟩
theorem RelL.next {c:Cf}{N:Cn}{first:Int→Int}{d:Nat}{t:Int}{blk:Nat→Nat→Bk}{tch:Nat→List Int}{own:Nat→Int}{nr:Nat→Nat→Cp}{sh:Nat→Int}{L:List Ent}(hN:Nm c N)(h:RelL c N first d t blk tch own nr sh L):RelL c N first d (t+1) blk tch own (if flushesB c (t+1)=true then (fun _ _=>cpE) else nr) sh L:=
 ⟨h.far,h.tch,h.mem,h.near.next (right_of hN.right) (fun e he=>(h.lt e he).1),h.inc.next (right_of hN.right) (fun e he=>(h.lt e he).1),h.lt.mono (by omega),h.emp,h.sh⟩
theorem RelL.near' {c:Cf}{N:Cn}{first:Int→Int}{d:Nat}{t:Int}{blk:Nat→Nat→Bk}{tch:Nat→List Int}{own:Nat→Int}{nr nr':Nat→Nat→Cp}{sh:Nat→Int}{L:List Ent}(h:RelL c N first d t blk tch own nr sh L)(hn:NearR c N.nn N.nc nr' d t L):RelL c N first d t blk tch own nr' sh L:=
 { h with near:=hn }
theorem near_empty {c:Cf}{nn nc:Nat}{d t:Int}:NearR c nn nc (fun _ _=>cpE) d t []:=fun k x _=>by
 unfold stateN
 split
 · rfl
 · rfl
theorem RelL.start {c:Cf}{N:Cn}{first:Int→Int}{d:Nat}{own:Nat→Int}{sh:Nat→Int}(ho:∀ a:Nat,a<N.pv→own a=first a)(hs:∀ a:Nat,N.pv≤a→a<N.pv+N.sn→sh (a-N.pv)=first a):RelL c N first d (-1) (fun _ _=>bkE) (fun _=>[]) own (fun _ _=>cpE) sh []:=
 ⟨FarR.start ..,fun _ _=>by intro lo hi;rfl,MemR.start ho,near_empty,fun _ _ _ hh=>absurd rfl hh,fun e he=>absurd he (by simp),fun _ _ _ _ _=>rfl,hs⟩
structure RelC (M:MDat)(N:Cn)(d:Nat)(t:Int)(m:Mh)(S:So):Prop where
 now:m.now=t
 evs:m.tr d=S.evs
 nx:∀ k,k<N.nc→S.next.getD k 0=(m.dn d k:Int)
 wt:m.wt d=S.queue
 bz:∀ k,k<N.nc→(S.how.getD k 0≠0↔((m.wk k).busy=true∧(m.wk k).dom=(d:Int)))
 bg:∀ k,k<N.nc→S.how.getD k 0≠0→(m.wk k).issue=S.began.getD k 0
 ops:∀ k,k<N.nc→m.ops d k=progF M d k
 kin:∀ k,k<N.nc→∀ o∈m.ops d k,o.1=0∨o.1=1
structure Lens (N:Cn)(S:So):Prop where
 hl:S.how.length=N.nc
 nl:S.next.length=N.nc
 fl:S.free.length=N.nc
 bl:S.began.length=N.nc
theorem SoOk.lens {M:MDat}{N:Cn}{d:Nat}{S:So}{B:Nat}(h:SoOk M d S B)(hN:Nm M.c N):Lens N S:=by
 have:=hN.nc
 exact ⟨by rw [h.hl];omega,by rw [h.nl];omega,by rw [h.fl];omega,by rw [h.bl];omega⟩
theorem RelC.frame {M:MDat}{N:Cn}{d:Nat}{t:Int}{m m':Mh}{S:So}(h:RelC M N d t m S)(h1:m'.now=m.now)(h2:m'.tr d=m.tr d)(h3:m'.dn d=m.dn d)(h4:m'.wt d=m.wt d)(h5:m'.ops d=m.ops d)
  (h6:∀ k,k<N.nc→(((m'.wk k).busy=true∧(m'.wk k).dom=(d:Int))↔((m.wk k).busy=true∧(m.wk k).dom=(d:Int)))) (h7:∀ k,k<N.nc→(m.wk k).busy=true→(m.wk k).dom=(d:Int)→(m'.wk k).issue=(m.wk k).issue):RelC M N d t m' S:=
 ⟨by rw [h1];exact h.now,by rw [h2];exact h.evs,fun k hk=>by rw [h3];exact h.nx k hk,by rw [h4];exact h.wt,fun k hk=>by rw [h6 k hk];exact h.bz k hk,fun k hk hh=>by
  have hb:=(h.bz k hk).1 hh
  rw [h7 k hk hb.1 hb.2];exact h.bg k hk hh,fun k hk=>by rw [h5];exact h.ops k hk,fun k hk=>by rw [h5];exact h.kin k hk⟩
theorem RelC.opOf {M:MDat}{N:Cn}{d k:Nat}{t:Int}{m:Mh}{S:So}{o:OpT}(h:RelC M N d t m S)(hk:k<N.nc)(ho:m.next d k=some o):opAt M d k S=o:=by
 unfold Mh.next at ho
 unfold opAt
 rw [h.nx k hk,Int.toNat_natCast,← h.ops k hk,List.getD_eq_getElem?_getD,ho]
 rfl
theorem RelC.has {M:MDat}{N:Cn}{d k:Nat}{t:Int}{m:Mh}{S:So}(h:RelC M N d t m S)(hk:k<N.nc)(hn:S.next.getD k 0<(progF M d k).length):∃ o,m.next d k=some o∧opAt M d k S=o∧(o.1=0∨o.1=1):=by
 rw [h.nx k hk,← h.ops k hk] at hn
 have hl:m.dn d k<(m.ops d k).length:=by omega
 have ho:m.next d k=some ((m.ops d k)[m.dn d k]'hl):=by unfold Mh.next;exact List.getElem?_eq_getElem hl
 exact ⟨_,ho,h.opOf hk ho,h.kin k hk _ (List.getElem_mem hl)⟩
theorem RelC.lacks {M:MDat}{N:Cn}{d k:Nat}{t:Int}{m:Mh}{S:So}(h:RelC M N d t m S)(hk:k<N.nc)(hn:m.next d k=none):((progF M d k).length:Int)≤S.next.getD k 0:=by
 rw [h.nx k hk,← h.ops k hk]
 unfold Mh.next at hn
 have:=List.getElem?_eq_none_iff.1 hn
 omega
theorem RelC.finish {M:MDat}{N:Cn}{d k:Nat}{t:Int}{m:Mh}{S:So}(h:RelC M N d t m S)(hl:Lens N S)(hk:k<N.nc)(hb:S.how.getD k 0≠0)(v f:Int):RelC M N d t (m.finish k v f) (S.done k t v f):=by
 obtain ⟨b1,b2⟩:=(h.bz k hk).1 hb
 have bg:=h.bg k hk hb
 have dd:(m.wk k).dom.toNat=d:=by rw [b2];exact Int.toNat_natCast d
 have kn:k<S.next.length:=by rw [hl.nl];exact hk
 have kh:k<S.how.length:=by rw [hl.hl];exact hk
 refine ⟨h.now,?_,fun j hj=>?_,h.wt,fun j hj=>?_,fun j hj hh=>?_,h.ops,h.kin⟩
 ·
  unfold Mh.finish So.done
  simp only [dd]
  have:up1 m.tr d (m.tr d++[⟨k,m.dn d k,v,f,(m.wk k).issue,m.now⟩]) d=m.tr d++[⟨k,m.dn d k,v,f,(m.wk k).issue,m.now⟩]:=by simp [up1]
  rw [this,h.evs,h.nx k hk,bg,h.now]
 ·
  unfold Mh.finish So.done
  simp only [dd]
  rw [getD_set kn]
  by_cases e:j=k
  ·
   subst e
   rw [if_pos rfl,h.nx j hj]
   simp [up2]
  ·
   rw [if_neg e,h.nx j hj]
   simp [up2,e]
 ·
  unfold Mh.finish So.done
  simp only
  rw [getD_set kh]
  by_cases e:j=k
  ·
   subst e
   rw [if_pos rfl]
   simp [up1]
  ·
   rw [if_neg e]
   simp only [up1,e,if_false]
   exact h.bz j hj
 ·
  unfold So.done at hh ⊢
  unfold Mh.finish
  simp only at hh ⊢
  rw [getD_set kh] at hh
  by_cases e:j=k
  ·
   subst e
   rw [if_pos rfl] at hh;exact absurd rfl hh
  ·
   rw [if_neg e] at hh
   simp only [up1,e,if_false]
   exact h.bg j hj hh
theorem RelC.begun {M:MDat}{N:Cn}{d k:Nat}{t:Int}{m:Mh}{S:So}(h:RelC M N d t m S)(hl:Lens N S)(hk:k<N.nc){w:Int}(hw:w≠0) :
  RelC M N d t { m with wk:=up1 m.wk k ⟨true,d,m.now⟩ } { S with began:=S.began.set k t,how:=S.how.set k w }:=by
 have kb:k<S.began.length:=by rw [hl.bl];exact hk
 have kh:k<S.how.length:=by rw [hl.hl];exact hk
 refine ⟨h.now,h.evs,h.nx,h.wt,fun j hj=>?_,fun j hj hh=>?_,h.ops,h.kin⟩
 ·
  simp only
  rw [getD_set kh]
  by_cases e:j=k
  ·
   subst e
   rw [if_pos rfl]
   simp [up1,hw]
  ·
   rw [if_neg e]
   simp only [up1,e,if_false]
   exact h.bz j hj
 ·
  simp only at hh ⊢
  rw [getD_set kh] at hh
  rw [getD_set kb]
  by_cases e:j=k
  ·
   subst e
   rw [if_pos rfl]
   simp [up1,h.now]
  ·
   rw [if_neg e] at hh ⊢
   simp only [up1,e,if_false]
   exact h.bg j hj hh
structure Rel (M:MDat)(N:Cn)(d:Nat)(t:Int)(m:Mh)(S:So):Prop where
 core:RelC M N d t m S
 log:RelL M.c N (firstF0 M d) d t (m.blk d) (m.tch d) (m.own d) m.nr m.sh S.log
theorem up3_at {α:Type}(f:Nat→Nat→Nat→α)(d i j:Nat)(v:α):up3 f d i j v d=up2 (f d) i j v:=by
 funext a b
 simp [up3,up2]
theorem up3_other {α:Type}(f:Nat→Nat→Nat→α){d e:Nat}(i j:Nat)(v:α)(h:e≠d):up3 f d i j v e=f e:=by
 funext a b
 simp [up3,h]
theorem up2_at {α:Type}(f:Nat→Nat→α)(d i:Nat)(v:α):up2 f d i v d=up1 (f d) i v:=by
 funext a
 simp [up2,up1]
theorem up2_other {α:Type}(f:Nat→Nat→α){d e:Nat}(i:Nat)(v:α)(h:e≠d):up2 f d i v e=f e:=by
 funext a
 simp [up2,h]
theorem up1_same {α:Type}(f:Nat→α)(d:Nat)(v:α):up1 f d v d=v:=by simp [up1]
theorem up1_other {α:Type}(f:Nat→α){d e:Nat}(v:α)(h:e≠d):up1 f d v e=f e:=by simp [up1,h]
theorem first_spec {p:Nat→Bool}:∀ n j:Nat,firstW p n j=-1∨∃ i:Nat,j≤i∧i<j+n∧firstW p n j=(i:Int)∧p i=true
 | 0,_=>Or.inl rfl
 | n+1,j=>by
  unfold firstW
  by_cases h:p j=true
  · rw [if_pos h];exact Or.inr ⟨j,Nat.le_refl _,by omega,rfl,h⟩
  ·
   rw [if_neg h]
   rcases first_spec (p:=p) n (j+1) with q|⟨i,h1,h2,h3,h4⟩
   · exact Or.inl q
   · exact Or.inr ⟨i,by omega,by omega,h3,h4⟩
theorem way_spec (b:Nat→Bk)(n:Nat)(x:Int):wayF b n x=-1∨∃ r:Nat,r<n∧wayF b n x=(r:Int)∧(b r).line=x:=by
 rcases first_spec (p:=fun j=>decide ((b j).line=x)) n 0 with q|⟨i,_,h2,h3,h4⟩
 · exact Or.inl q
 · exact Or.inr ⟨i,by omega,h3,by simpa using h4⟩
theorem mserve_none {N:Cn}{m:Mh}{d:Nat}(hq:m.wt d=[]):m.serve N d=(m,-1):=by
 unfold Mh.serve;rw [hq]
theorem mserve_fetch {N:Cn}{m:Mh}{d k x:Nat}{q:List Int}{o:OpT}(hq:m.wt d=(k:Int)::q)(hn:m.next d k=some o)(hx:(o.2.1 / (N.ln:Int)).toNat=x)(hw:wayF (m.blk d (x%N.ns)) (N.wn d) x=-1):m.serve N d=(m.fetch N d x,-1):=by
 unfold Mh.serve;rw [hq]
 simp only [Int.toNat_natCast,hn,hx]
 rw [if_pos hw]
theorem mserve_done {N:Cn}{m:Mh}{d k x r:Nat}{q:List Int}{o:OpT}(hq:m.wt d=(k:Int)::q)(hn:m.next d k=some o)(hx:(o.2.1 / (N.ln:Int)).toNat=x)(hw:wayF (m.blk d (x%N.ns)) (N.wn d) x=(r:Int)) :
  m.serve N d=((((({ m with wt:=up1 m.wt d q,tch:=up2 m.tch d (x%N.ns) (touchF (m.tch d (x%N.ns)) (r:Int)) }:Mh).hand N d k o).perform N d o).finish k ((({ m with wt:=up1 m.wt d q,tch:=up2 m.tch d (x%N.ns) (touchF (m.tch d (x%N.ns)) (r:Int)) }:Mh).hand N d k o).valueOf N d o) 0),(k:Int)):=by
 unfold Mh.serve;rw [hq]
 simp only [Int.toNat_natCast,hn,hx]
 rw [if_neg (by rw [hw];omega),hw]
theorem hand_load {N:Cn}{m:Mh}{d k x:Nat}{o:OpT}(ho:o.1=0)(hx:(o.2.1 / (N.ln:Int)).toNat=x):m.hand N d k o={ m with nr:=putN N.nn (shareAllN (fun j=>decide (j<N.nc∧j≠k)) N.nn m.nr d x) k d x (if foundN N.nn m.nr k d x N.nc=true∨N.c.priv≤o.2.1 then 1 else 2) }:=by
 unfold Mh.hand
 simp only [hx]
 rw [if_neg (by omega)]
theorem hand_store {N:Cn}{m:Mh}{d k x:Nat}{o:OpT}(ho:o.1=1)(hx:(o.2.1 / (N.ln:Int)).toNat=x):m.hand N d k o={ m with nr:=putN N.nn (dropAllN (fun j=>decide (j<N.nc∧j≠k)) N.nn m.nr d x) k d x 3 }:=by
 unfold Mh.hand
 simp only [hx]
 rw [if_pos ho]
theorem perform_load {N:Cn}{m:Mh}{d:Nat}{o:OpT}(ho:o.1=0):m.perform N d o=m:=by
 unfold Mh.perform
 simp only
 rw [if_pos (Or.inr ho)]
theorem perform_store {N:Cn}{m:Mh}{d x r:Nat}{o:OpT}(ho:o.1=1)(hx:(o.2.1 / (N.ln:Int)).toNat=x)(hw:wayF (m.blk d (x%N.ns)) (N.wn d) x=(r:Int)):m.perform N d o={ m with blk:=up3 m.blk d (x%N.ns) r ⟨(m.blk d (x%N.ns) r).line,true,up1 (m.blk d (x%N.ns) r).wd (o.2.1.toNat-x*N.ln) o.2.2⟩ }:=by
 unfold Mh.perform
 simp only [hx,hw,Int.toNat_natCast]
 rw [if_neg (by omega)]
theorem value_store {N:Cn}{m:Mh}{d:Nat}{o:OpT}(ho:o.1=1):m.valueOf N d o=o.2.2:=by
 unfold Mh.valueOf
 simp only
 rw [if_neg (by omega)]
theorem value_load {N:Cn}{m:Mh}{d x r:Nat}{o:OpT}(ho:o.1=0)(hx:(o.2.1 / (N.ln:Int)).toNat=x)(hw:wayF (m.blk d (x%N.ns)) (N.wn d) x=(r:Int)):m.valueOf N d o=(m.blk d (x%N.ns) r).wd (o.2.1.toNat-x*N.ln):=by
 unfold Mh.valueOf
 simp only [hx,hw,Int.toNat_natCast]
 rw [if_pos ho,if_neg (by omega)]
theorem value_load' {N:Cn}{m:Mh}{d x r:Nat}{o:OpT}(ho:o.1=0)(hx:(o.2.1 / (N.ln:Int)).toNat=x)(hw:wayF (m.blk d (x%N.ns)) (N.wn d) x=(r:Int))(m':Mh)(hb:m'.blk=m.blk):m'.valueOf N d o=(m.blk d (x%N.ns) r).wd (o.2.1.toNat-x*N.ln):=by
 rw [← hb] at hw ⊢
 exact value_load ho hx hw
theorem perform_store' {N:Cn}{m:Mh}{d x r:Nat}{o:OpT}(ho:o.1=1)(hx:(o.2.1 / (N.ln:Int)).toNat=x)(hw:wayF (m.blk d (x%N.ns)) (N.wn d) x=(r:Int))(m':Mh)(hb:m'.blk=m.blk):m'.perform N d o={ m' with blk:=up3 m.blk d (x%N.ns) r ⟨(m.blk d (x%N.ns) r).line,true,up1 (m.blk d (x%N.ns) r).wd (o.2.1.toNat-x*N.ln) o.2.2⟩ }:=by
 rw [← hb] at hw ⊢
 exact perform_store ho hx hw
theorem RelC.told {M:MDat}{N:Cn}{d:Nat}{t:Int}{m:Mh}{S:So}(h:RelC M N d t m S)(e:Ent):RelC M N d t m (S.told e):=
 ⟨h.now,h.evs,h.nx,h.wt,h.bz,h.bg,h.ops,h.kin⟩
theorem RelC.same {M:MDat}{N:Cn}{d:Nat}{t:Int}{m m':Mh}{S:So}(h:RelC M N d t m S)(h1:m'.now=m.now)(h2:m'.tr=m.tr)(h3:m'.dn=m.dn)(h4:m'.wt=m.wt)(h5:m'.ops=m.ops)(h6:m'.wk=m.wk):RelC M N d t m' S:=
 h.frame h1 (by rw [h2]) (by rw [h3]) (by rw [h4]) (by rw [h5]) (fun k _=>by rw [h6]) (fun k _ _ _=>by rw [h6])
theorem line_of {c:Cf}{N:Cn}(hN:Nm c N){o:OpT}(hf:faultF c o=0):∃ a:Nat,o.2.1=(a:Int)∧a<N.pv+N.sn∧(o.2.1 / (N.ln:Int)).toNat=a / N.ln∧o.2.1 / c.line=((a / N.ln:Nat):Int)∧a / N.ln*N.ln≤a∧a<a / N.ln*N.ln+N.ln∧(o.1=1→a<N.pv):=by
 obtain ⟨a0,a1⟩:=fault_none hf
 have hp:=hN.pv
 have hs:=hN.sn
 obtain ⟨a,ha⟩:∃ a:Nat,o.2.1=(a:Int):=⟨_,(Int.toNat_of_nonneg a0).symm⟩
 have hm:=Nat.mod_add_div a N.ln
 have hlt:=Nat.mod_lt a hN.l0
 have hcm:N.ln*(a / N.ln)=a / N.ln*N.ln:=Nat.mul_comm _ _
 refine ⟨a,ha,by omega,?_,?_,by omega,by omega,fun h1=>?_⟩
 · rw [ha,← Int.natCast_ediv];exact Int.toNat_natCast _
 · rw [ha,← hN.ln,← Int.natCast_ediv]
 ·
  unfold faultF at hf
  by_cases q:o.2.1<0∨c.priv+c.shared≤o.2.1
  · rw [if_pos q] at hf;omega
  ·
   rw [if_neg q] at hf
   by_cases q2:o.1=1∧c.priv≤o.2.1
   · rw [if_pos q2] at hf;omega
   · omega
theorem write_in {pv ln a y:Nat}{own wd:Nat→Int}(h4:ln≤4)(ha:a<pv)(h1:y*ln≤a)(h2:a<y*ln+ln):writeM pv ln own y wd a=wd (a-y*ln):=by
 unfold writeM;rw [if_pos ⟨h1,h2,by omega,ha⟩]
theorem write_out {pv ln a y:Nat}{own wd:Nat→Int}(h0:0<ln)(h:a / ln≠y):writeM pv ln own y wd a=own a:=by
 unfold writeM
 rw [if_neg (fun q=>h ?_)]
 obtain ⟨q1,q2,_⟩:=q
 have hle:y≤a / ln:=(Nat.le_div_iff_mul_le h0).2 q1
 have hlt:a / ln<y+1:=(Nat.div_lt_iff_lt_mul h0).2 (by rw [Nat.succ_mul];exact q2)
 omega
set_option maxHeartbeats 1600000 in
theorem Rel.serve {M:MDat}{N:Cn}{d:Nat}{t:Int}{m:Mh}{S:So}{B:Nat}(hN:Nm M.c N)(hc:N.c=M.c)(hd:d<N.nd)(h:Rel M N d t m S)(hs:SoOk M d S B)(ht:∀ k,k<N.nc→S.how.getD k 0≠0→turnZ M.c k t=d∧t%M.c.quantum<M.c.quantum-M.c.flush) :
  Rel M N d t (m.serve N d).1 (So.serve M d S t)∧(((m.serve N d).2=-1∧(So.serve M d S t).free=S.free)∨∃ k,k<N.nc∧(m.serve N d).2=(k:Int)∧S.how.getD k 0≠0∧(So.serve M d S t).free=S.free.set k (t+1)):=by
 cases hq:S.queue with
 | nil=>
  have hq':m.wt d=[]:=h.core.wt.trans hq
  have e:So.serve M d S t=S:=by unfold So.serve;rw [hq]
  rw [mserve_none hq',e]
  exact ⟨h,Or.inl ⟨rfl,rfl⟩⟩
 | cons core q=>
  obtain ⟨k,rfl,hk',hk1⟩:=hs.qu core (by rw [hq];exact List.mem_cons_self ..)
  have hnc:M.c.cores.toNat=N.nc:=by have:=hN.nc;omega
  have hk:k<N.nc:=by omega
  have hb:S.how.getD k 0≠0:=by omega
  have hq':m.wt d=(k:Int)::q:=h.core.wt.trans hq
  have hnx:S.next.getD k 0<(progF M d k).length:=by rcases hs.hw k hk' with e | e <;> omega
  obtain ⟨o,ho,hoa,hkin⟩:=h.core.has hk hnx
  have hf:faultF M.c o=0:=by rw [← hoa];exact hs.w1 k hk' hk1
  obtain ⟨a,ha,hap,hx1,hx2,hx3,hx4,hst⟩:=line_of hN hf
  obtain ⟨okd,oad,ovl⟩:=o
  simp only at ha hx1 hx2 hst hkin
  obtain ⟨t1,t2⟩:=ht k hk hb
  have hl:=hs.lens hN
  have F:=h.log.far
  have hsl:a / N.ln%N.ns<N.ns:=Nat.mod_lt _ hN.s0
  have hwh:=F.wh (a / N.ln)
  have l4:=hN.l4
  have l0:=hN.l0
  rcases way_spec (m.blk d (a / N.ln%N.ns)) (N.wn d) ((a / N.ln:Nat):Int) with hw|⟨r,hr,hw,hline⟩
  ·
   rw [mserve_fetch hq' ho hx1 hw]
   have hneg:¬0≤whereF ((a / N.ln:Nat):Int) S.log:=by rw [hwh,hw];omega
   have hsm:smallB ((N.wn d:Nat):Int)=true:=by rw [hN.wn];exact ways_small hN.right (by have:=hN.nd;omega)
   have hroom:=room_chosen F hsl (h.log.tch _ hsl)
   obtain ⟨c0,c1⟩:=chosen_bd (c:=M.c) (set:=((a / N.ln%N.ns:Nat):Int)) (log:=S.log) hsm
   obtain ⟨r,hrr⟩:∃ r:Nat,chosenF M.c (N.wn d) ((a / N.ln%N.ns:Nat):Int) S.log=(r:Int):=⟨_,(Int.toNat_of_nonneg c0).symm⟩
   have hr:r<N.wn d:=by omega
   have hset:=set_cast hN (a / N.ln)
   have hch:chosenF M.c (M.c.ways.count (d:Int)) (((a / N.ln:Nat):Int)%M.c.sets) S.log=(r:Int):=by rw [hset,← hN.wn];exact hrr
   have hlies:liesF M.c (((a / N.ln:Nat):Int)%M.c.sets) (r:Int) S.log=(m.blk d (a / N.ln%N.ns) r).line:=by rw [hset];exact (F.line _ _ hsl hr).symm
   have hlow:=F.low (a / N.ln%N.ns) r hsl hr
   have hxl:a / N.ln*N.ln<N.pv+N.sn:=by omega
   by_cases hy:(m.blk d (a / N.ln%N.ns) r).line=-1
   ·
    have hmk:=h.log.emp _ r hsl hr hy
    rw [serve_fill hq hoa hx2 hneg hch hlies (by omega)]
    have hfe:m.fetch N d (a / N.ln)={ m with blk:=up3 m.blk d (a / N.ln%N.ns) r ⟨((a / N.ln:Nat):Int),false,readM N.pv N.sn N.ln (m.own d) m.sh (a / N.ln)⟩ }:=by
     unfold Mh.fetch
     simp only [hroom,hrr,Int.toNat_natCast,hy,hmk,if_true,Bool.false_eq_true,if_false]
    rw [hfe]
    have hL:=h.log.fill hN hr hy hxl hw
    rw [← up3_at] at hL
    exact ⟨⟨RelC.told (by exact h.core.same rfl rfl rfl rfl rfl rfl) _,hL⟩,Or.inl ⟨rfl,rfl⟩⟩
   ·
    obtain ⟨y,hyy⟩:∃ y:Nat,(m.blk d (a / N.ln%N.ns) r).line=(y:Int):=⟨_,(Int.toNat_of_nonneg (by omega)).symm⟩
    have hys:y%N.ns=a / N.ln%N.ns:=by
     have:=F.set _ r hsl hr (by omega)
     rw [hyy] at this;omega
    have hmkd:=F.mkd _ r hsl hr (by omega)
    rw [hyy] at hmkd
    have hwd:=fun i (hi:i<N.ln)=>F.wd _ r i hsl hr hi (by omega)
    rw [hyy] at hwd
    have hline':(m.blk d (y%N.ns) r).line=(y:Int):=by rw [hys];exact hyy
    have hdig:∀ b:Nat,b / N.ln=y→y*N.ln≤b∧b<y*N.ln+N.ln:=fun b hb=>by
     have h1:=Nat.mod_add_div b N.ln
     have h2:=Nat.mod_lt b l0
     rw [hb] at h1
     have:N.ln*y=y*N.ln:=Nat.mul_comm _ _
     omega
    by_cases hm:(m.blk d (a / N.ln%N.ns) r).mkd=true
    ·
     rw [serve_gone hq hoa hx2 hneg hch (hlies.trans hyy) (by omega) (by rw [← hmkd];exact hm)]
     have hfe:m.fetch N d (a / N.ln)={ m with nr:=dropAllN (fun j=>decide (j<N.nc)) N.nn m.nr d y,own:=up1 m.own d (writeM N.pv N.ln (m.own d) y (m.blk d (a / N.ln%N.ns) r).wd),blk:=up3 m.blk d (a / N.ln%N.ns) r bkE }:=by
      have hn1:¬((y:Int)=-1):=by omega
      unfold Mh.fetch
      simp only [hroom,hrr,Int.toNat_natCast,hyy,hm,if_true,hn1,if_false]
     rw [hfe]
     have hL:=h.log.gone (own':=writeM N.pv N.ln (m.own d) y (m.blk d (a / N.ln%N.ns) r).wd) hN hr hline' (fun b hb hby=>by
      obtain ⟨g1,g2⟩:=hdig b hby
      rw [write_in l4 hb g1 g2,hwd _ (by omega)]
      have:(y:Int)*N.ln+((b-y*N.ln:Nat):Int)=(b:Int):=by
       rw [← Int.natCast_mul,← Int.natCast_add];congr 1;omega
      rw [this]) (fun b hb hby=>write_out l0 hby)
     rw [hys,← up3_at] at hL
     have hown:up1 m.own d (writeM N.pv N.ln (m.own d) y (m.blk d (a / N.ln%N.ns) r).wd) d=writeM N.pv N.ln (m.own d) y (m.blk d (a / N.ln%N.ns) r).wd:=up1_same ..
     rw [← hown] at hL
     exact ⟨⟨RelC.told (by exact h.core.same rfl rfl rfl rfl rfl rfl) _,hL⟩,Or.inl ⟨rfl,rfl⟩⟩
    ·
     have hm':(m.blk d (a / N.ln%N.ns) r).mkd=false:=by simpa using hm
     rw [serve_both hq hoa hx2 hneg hch (hlies.trans hyy) (by omega) (by rw [← hmkd];exact hm')]
     have hfe:m.fetch N d (a / N.ln)={ m with nr:=dropAllN (fun j=>decide (j<N.nc)) N.nn m.nr d y,blk:=up3 m.blk d (a / N.ln%N.ns) r ⟨((a / N.ln:Nat):Int),false,readM N.pv N.sn N.ln (m.own d) m.sh (a / N.ln)⟩ }:=by
      have hn1:¬((y:Int)=-1):=by omega
      unfold Mh.fetch
      simp only [hroom,hrr,Int.toNat_natCast,hyy,hm',Bool.false_eq_true,if_false,hn1]
     rw [hfe]
     have hL:=h.log.gone (own':=m.own d) hN hr hline' (fun b hb hby=>h.log.mem.cln b hb (Or.inr (by rw [hby,← hmkd];exact hm'))) (fun b hb hby=>rfl)
     rw [hys] at hL
     have hno:wayF (up2 (m.blk d) (a / N.ln%N.ns) r bkE (a / N.ln%N.ns)) (N.wn d) ((a / N.ln:Nat):Int)=-1:=by
      rw [← hL.far.wh (a / N.ln)]
      by_cases g:(y:Int)=((a / N.ln:Nat):Int)
      · simp [whereF,g]
      ·
       have:whereF ((a / N.ln:Nat):Int) S.log=-1:=hwh.trans hw
       rw [where_ne g];exact this
     have hL2:=hL.fill hN hr (by simp [up2,bkE]) hxl hno
     rw [up2_up2,← up3_at] at hL2
     exact ⟨⟨RelC.told (RelC.told (by exact h.core.same rfl rfl rfl rfl rfl rfl) _) _,hL2⟩,Or.inl ⟨rfl,rfl⟩⟩
  ·
   rw [mserve_done hq' ho hx1 hw]
   have hpos:0≤whereF ((a / N.ln:Nat):Int) S.log:=by rw [hwh,hw];omega
   have hwr:whereF ((a / N.ln:Nat):Int) S.log=(r:Int):=hwh.trans hw
   have hpop:RelC M N d t { m with wt:=up1 m.wt d q,tch:=up2 m.tch d (a / N.ln%N.ns) (touchF (m.tch d (a / N.ln%N.ns)) (r:Int)) } { S with queue:=q }:=
    ⟨h.core.now,h.core.evs,h.core.nx,up1_same ..,h.core.bz,h.core.bg,h.core.ops,h.core.kin⟩
   have hl':Lens N { S with queue:=q }:=⟨hl.hl,hl.nl,hl.fl,hl.bl⟩
   have hat:oad.toNat=a:=by rw [ha];exact Int.toNat_natCast a
   rcases hkin with hld|hsto
   ·
    subst hld
    rw [serve_load hq hoa (by simp) hx2 hpos,hand_load rfl hx1,perform_load rfl,value_load' rfl hx1 hw _ ?hb]
    case hb=>rfl
    have hv:(m.blk d (a / N.ln%N.ns) r).wd (oad.toNat-a / N.ln*N.ln)=wordF oad (firstF0 M d oad) (⟨t,3,k,((a / N.ln:Nat):Int),whereF ((a / N.ln:Nat):Int) S.log,false,loneF M.c k ((a / N.ln:Nat):Int) t S.log M.c.cores.toNat 0&&decide (oad<M.c.priv),0,0⟩::S.log):=by
     rw [hat,F.wd _ r _ hsl hr (by omega) (by rw [hline];omega),hline]
     have:((a / N.ln:Nat):Int)*N.ln+((a-a / N.ln*N.ln:Nat):Int)=oad:=by
      rw [ha,← Int.natCast_mul,← Int.natCast_add];congr 1;omega
     rw [this]
     simp [wordF]
    simp only
    rw [hv]
    have hL:=h.log.load (a:=oad) (way:=(r:Int)) hN hk hpos t1 t2
    rw [← up2_at,← hc] at hL
    have hC:=((hpop.same (m':={ m with wt:=up1 m.wt d q,tch:=up2 m.tch d (a / N.ln%N.ns) (touchF (m.tch d (a / N.ln%N.ns)) (r:Int)),nr:=putN N.nn (shareAllN (fun j=>decide (j<N.nc∧j≠k)) N.nn m.nr d (a / N.ln)) k d (a / N.ln) (if foundN N.nn m.nr k d (a / N.ln) N.nc=true∨N.c.priv≤oad then 1 else 2) }) rfl rfl rfl rfl rfl rfl).told ⟨t,3,k,((a / N.ln:Nat):Int),whereF ((a / N.ln:Nat):Int) S.log,false,loneF M.c k ((a / N.ln:Nat):Int) t S.log M.c.cores.toNat 0&&decide (oad<M.c.priv),0,0⟩).finish ⟨hl'.hl,hl'.nl,hl'.fl,hl'.bl⟩ hk hb (wordF oad (firstF0 M d oad) (⟨t,3,k,((a / N.ln:Nat):Int),whereF ((a / N.ln:Nat):Int) S.log,false,loneF M.c k ((a / N.ln:Nat):Int) t S.log M.c.cores.toNat 0&&decide (oad<M.c.priv),0,0⟩::S.log)) 0
    refine ⟨⟨hC,?_⟩,Or.inr ⟨k,hk,rfl,hb,rfl⟩⟩
    rw [hc] at hL
    show RelL M.c N (firstF0 M d) d t (m.blk d) (up2 m.tch d (a / N.ln%N.ns) (touchF (m.tch d (a / N.ln%N.ns)) (r:Int)) d) (m.own d) (putN N.nn (shareAllN (fun j=>decide (j<N.nc∧j≠k)) N.nn m.nr d (a / N.ln)) k d (a / N.ln) (if foundN N.nn m.nr k d (a / N.ln) N.nc=true∨N.c.priv≤oad then 1 else 2)) m.sh (⟨t,3,k,((a / N.ln:Nat):Int),whereF ((a / N.ln:Nat):Int) S.log,false,loneF M.c k ((a / N.ln:Nat):Int) t S.log M.c.cores.toNat 0&&decide (oad<M.c.priv),0,0⟩::S.log)
    rw [hnc,hwr,hc]
    exact hL
   ·
    subst hsto
    have hapv:=hst rfl
    rw [serve_store hq hoa hx2 hpos,hand_store rfl hx1,perform_store' rfl hx1 hw _ ?hb,value_store rfl]
    case hb=>rfl
    have hL:=h.log.store (v:=ovl) (w2:=(r:Int)) hN hk hapv hr hline hpos t1 t2
    rw [← up2_at,← up3_at] at hL
    have hC:=(((hpop.same (m':={ m with wt:=up1 m.wt d q,tch:=up2 m.tch d (a / N.ln%N.ns) (touchF (m.tch d (a / N.ln%N.ns)) (r:Int)),nr:=putN N.nn (dropAllN (fun j=>decide (j<N.nc∧j≠k)) N.nn m.nr d (a / N.ln)) k d (a / N.ln) 3,blk:=up3 m.blk d (a / N.ln%N.ns) r ⟨(m.blk d (a / N.ln%N.ns) r).line,true,up1 (m.blk d (a / N.ln%N.ns) r).wd (oad.toNat-a / N.ln*N.ln) ovl⟩ }) rfl rfl rfl rfl rfl rfl).told ⟨t,3,k,((a / N.ln:Nat):Int),whereF ((a / N.ln:Nat):Int) S.log,true,false,0,0⟩).told ⟨t,4,k,((a / N.ln:Nat):Int),whereF ((a / N.ln:Nat):Int) S.log,false,false,oad,ovl⟩).finish ⟨hl'.hl,hl'.nl,hl'.fl,hl'.bl⟩ hk hb ovl 0
    refine ⟨⟨hC,?_⟩,Or.inr ⟨k,hk,rfl,hb,rfl⟩⟩
    show RelL M.c N (firstF0 M d) d t (up3 m.blk d (a / N.ln%N.ns) r ⟨(m.blk d (a / N.ln%N.ns) r).line,true,up1 (m.blk d (a / N.ln%N.ns) r).wd (oad.toNat-a / N.ln*N.ln) ovl⟩ d) (up2 m.tch d (a / N.ln%N.ns) (touchF (m.tch d (a / N.ln%N.ns)) (r:Int)) d) (m.own d) (putN N.nn (dropAllN (fun j=>decide (j<N.nc∧j≠k)) N.nn m.nr d (a / N.ln)) k d (a / N.ln) 3) m.sh (⟨t,4,k,((a / N.ln:Nat):Int),whereF ((a / N.ln:Nat):Int) S.log,false,false,oad,ovl⟩::⟨t,3,k,((a / N.ln:Nat):Int),whereF ((a / N.ln:Nat):Int) S.log,true,false,0,0⟩::S.log)
    rw [hat,hline,hwr,ha]
    exact hL
end Go.Proofs.YtehheaedbnfidaaGreat
