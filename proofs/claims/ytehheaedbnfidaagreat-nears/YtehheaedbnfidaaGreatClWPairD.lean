import Derived.Test.YtehheaedbnfidaaGreatClWMachT
import Derived.Test.YtehheaedbnfidaaGreatClWRefSF
import Derived.Test.YtehheaedbnfidaaGreatClRefW1
import Derived.Test.YtehheaedbnfidaaGreatClRefW3
import Derived.Test.YtehheaedbnfidaaGreatClRefW4
import Derived.Test.YtehheaedbnfidaaGreatClRefW5
import Derived.Test.YtehheaedbnfidaaGreatClRefW6
set_option maxRecDepth 100000
namespace Go.Proofs.YtehheaedbnfidaaGreat
open Go.RowKit
def opsR (M:RDat)(d k:Nat):List OpT:=if d<M.c.domains.toNat∧k<M.c.cores.toNat then M.pr (d*M.c.cores.toNat+k) else []
def ownR (M:RDat)(d a:Nat):Int:=(M.ow d).getD a 0
def shR (M:RDat)(a:Nat):Int:=M.cm.getD a 0
structure PairD (M:RDat)(m:Mh):Prop where
 run:m=Mh.runs (cnOf M.c) M.T.toNat (mkM (opsR M) (ownR M) (shR M))
 ops:∀ i,opsOk (M.pr i)=true
theorem opsOk_kin {os:List OpT}(h:opsOk os=true):os.length≤64∧∀ o∈os,o.1=0∨o.1=1:=by
 unfold opsOk at h
 simp only [Bool.and_eq_true,decide_eq_true_eq,List.all_eq_true] at h
 refine ⟨h.1,fun o ho=>?_⟩
 have:=h.2 o ho
 unfold kindB at this
 simp only [Bool.or_eq_true,beq_iff_eq] at this
 exact this
theorem PairD.kin {M:RDat}{m:Mh}(h:PairD M m)(d k:Nat):(opsR M d k).length≤64∧∀ o∈opsR M d k,o.1=0∨o.1=1:=by
 unfold opsR
 split
 · exact opsOk_kin (h.ops _)
 · exact ⟨by simp,fun o ho=>by simp at ho⟩
theorem PairD.ok {M:RDat}{m:Mh}(h:PairD M m)(hz:chk M.c=0)(hT:0≤M.T):MhOk (cnOf M.c) m∧m.now=M.T:=by
 have:=MhOk.runs (N:=cnOf M.c) ⟨rfl,hz⟩ (mkM_ok (cnOf M.c) (ownR M) (shR M) (fun d k=>(h.kin d k).1) (fun d k=>(h.kin d k).2)) (by show (0:Int)≤0;omega) M.T.toNat
 rw [← h.run] at this
 refine ⟨this.1,this.2.trans ?_⟩
 show (0:Int)+M.T.toNat=M.T
 omega
theorem PairD.now0 {M:RDat}{m:Mh}(h:PairD M m)(hz:chk M.c=0)(hT:0≤M.T):(Mh.runs (cnOf M.c) M.T.toNat (mkM (opsR M) (ownR M) (shR M))).now=(M.T.toNat:Int):=by
 rw [← h.run,(h.ok hz hT).2]
 omega
theorem PairD.fresh (c:Cf)(s:Sl):PairD ⟨c,s,fun _=>[],fun _=>List.replicate c.priv.toNat 0,List.replicate c.shared.toNat 0,0⟩ (mkM (fun _ _=>[]) (fun _ _=>0) (fun _=>0)):=by
 refine ⟨?_,fun i=>rfl⟩
 have e1:opsR ⟨c,s,fun _=>[],fun _=>List.replicate c.priv.toNat 0,List.replicate c.shared.toNat 0,0⟩=fun _ _=>[]:=by
  funext d k
  unfold opsR
  split <;> rfl
 have z:∀ n a:Nat,(List.replicate n (0:Int)).getD a 0=0:=fun n a=>by
  rw [List.getD_eq_getElem?_getD,List.getElem?_replicate]
  split <;> rfl
 have e2:ownR ⟨c,s,fun _=>[],fun _=>List.replicate c.priv.toNat 0,List.replicate c.shared.toNat 0,0⟩=fun _ _=>0:=by
  funext d a
  exact z _ _
 have e3:shR ⟨c,s,fun _=>[],fun _=>List.replicate c.priv.toNat 0,List.replicate c.shared.toNat 0,0⟩=fun _=>0:=by
  funext a
  exact z _ _
 rw [e1,e2,e3]
 rfl
def giveE (M:RDat)(d k:Int)(os:List OpT):Int:=if d<0∨M.c.domains≤d∨k<0∨M.c.cores≤k then 6 else if 0<M.T then 7 else if opsOk os=true then 0 else 8
def giveM (M:RDat)(d k:Int)(os:List OpT):RDat:=if giveE M d k os=0 then { M with pr:=fun i=>if i=d.toNat*M.c.cores.toNat+k.toNat then os else M.pr i } else M
theorem at_mul {n d k e j:Nat}(hk:k<n)(hj:j<n)(h:d*n+k=e*n+j):d=e∧k=j:=by
 have h0:0<n:=by omega
 have q1:(d*n+k) / n=d:=by rw [Nat.mul_comm,Nat.mul_add_div h0,Nat.div_eq_of_lt hk,Nat.add_zero]
 have q2:(e*n+j) / n=e:=by rw [Nat.mul_comm,Nat.mul_add_div h0,Nat.div_eq_of_lt hj,Nat.add_zero]
 rw [h,q2] at q1
 subst q1
 exact ⟨rfl,by omega⟩
theorem PairD.give {M:RDat}{m:Mh}(h:PairD M m)(hz:chk M.c=0)(hT:0≤M.T)(d k:Int)(os:List OpT):giveME (cnOf M.c) m d k os=giveE M d k os∧PairD (giveM M d k os) (giveMM (cnOf M.c) m d k os):=by
 have hn:=(h.ok hz hT).2
 have e1:giveME (cnOf M.c) m d k os=giveE M d k os:=by
  unfold giveME giveE
  rw [hn]
  rfl
 refine ⟨e1,?_⟩
 unfold giveM
 have hg:=give_mk (cnOf M.c) (opsR M) (ownR M) (shR M) M.T.toNat (h.now0 hz hT) d k os
 rw [← h.run,e1] at hg
 rw [hg]
 by_cases q:giveE M d k os=0
 ·
  rw [if_pos q,if_pos q]
  have hd:0≤d∧d<M.c.domains∧0≤k∧k<M.c.cores∧opsOk os=true:=by
   unfold giveE at q
   split at q
   · omega
   ·
    split at q
    · omega
    ·
     split at q
     · next q2=>exact ⟨by omega,by omega,by omega,by omega,q2⟩
     · omega
  refine ⟨?_,fun i=>?_⟩
  ·
   have:opsR { M with pr:=fun i=>if i=d.toNat*M.c.cores.toNat+k.toNat then os else M.pr i }=up2 (opsR M) d.toNat k.toNat os:=by
    funext a b
    unfold opsR up2
    simp only
    by_cases r:a<M.c.domains.toNat∧b<M.c.cores.toNat
    ·
     rw [if_pos r,if_pos r]
     by_cases s:a=d.toNat∧b=k.toNat
     · rw [if_pos s,if_pos (by rw [s.1,s.2])]
     · rw [if_neg s,if_neg (fun e=>s (at_mul r.2 (by omega) e))]
    · rw [if_neg r,if_neg r,if_neg (fun s=>r ⟨by omega,by omega⟩)]
   rw [this]
   rfl
  ·
   show opsOk (if i=d.toNat*M.c.cores.toNat+k.toNat then os else M.pr i)=true
   split
   · exact hd.2.2.2.2
   · exact h.ops i
 ·
  rw [if_neg q,if_neg q]
  exact h
theorem getD_setR {xs:List Int}{a b:Nat}{v:Int}(ha:a<xs.length):(xs.set a v).getD b 0=if b=a then v else xs.getD b 0:=by
 rw [List.getD_eq_getElem?_getD,List.getD_eq_getElem?_getD,List.getElem?_set]
 by_cases q:a=b
 ·
  subst q
  simp [ha]
 · rw [if_neg q,if_neg (fun e=>q e.symm)]
theorem PairD.fill {M:RDat}{m:Mh}(h:PairD M m)(hz:chk M.c=0)(hT:0≤M.T)(hl:∀ d,d<M.c.domains.toNat→(M.ow d).length=M.c.priv.toNat)(d a v:Int):fillME (cnOf M.c) m d a=fillE M d a∧PairD (fillM M d a v) (fillMM (cnOf M.c) m d a v):=by
 have hn:=(h.ok hz hT).2
 have e1:fillME (cnOf M.c) m d a=fillE M d a:=by
  unfold fillME fillE
  rw [hn]
  rfl
 refine ⟨e1,?_⟩
 unfold fillM
 have hg:=fill_mk (cnOf M.c) (opsR M) (ownR M) (shR M) M.T.toNat (h.now0 hz hT) d a v
 rw [← h.run,e1] at hg
 rw [hg]
 by_cases q:fillE M d a=0
 ·
  rw [if_pos q,if_pos q]
  have hd:0≤d∧d<M.c.domains∧0≤a∧a<M.c.priv:=by
   unfold fillE at q
   split at q
   · omega
   · omega
  refine ⟨?_,h.ops⟩
  have:ownR { M with ow:=fun e=>if e=d.toNat then (M.ow d.toNat).set a.toNat v else M.ow e }=up1 (ownR M) d.toNat (up1 (ownR M d.toNat) a.toNat v):=by
   funext e b
   unfold ownR up1
   simp only
   by_cases r:e=d.toNat
   · rw [if_pos r,if_pos r,getD_setR (by rw [hl _ (by omega)];omega)]
   · rw [if_neg r,if_neg r]
  rw [this]
  rfl
 ·
  rw [if_neg q,if_neg q]
  exact h
theorem PairD.share {M:RDat}{m:Mh}(h:PairD M m)(hz:chk M.c=0)(hT:0≤M.T)(hl:M.cm.length=M.c.shared.toNat)(a v:Int):shareME (cnOf M.c) m a=shareE M a∧PairD (shareM M a v) (shareMM (cnOf M.c) m a v):=by
 have hn:=(h.ok hz hT).2
 have e1:shareME (cnOf M.c) m a=shareE M a:=by
  unfold shareME shareE
  rw [hn]
  rfl
 refine ⟨e1,?_⟩
 unfold shareM
 have hg:=share_mk (cnOf M.c) (opsR M) (ownR M) (shR M) M.T.toNat (h.now0 hz hT) a v
 rw [← h.run,e1] at hg
 rw [hg]
 by_cases q:shareE M a=0
 ·
  rw [if_pos q,if_pos q]
  have hd:0≤a∧a<M.c.shared:=by
   unfold shareE at q
   split at q
   · omega
   · omega
  refine ⟨?_,h.ops⟩
  have:shR { M with cm:=M.cm.set a.toNat v }=up1 (shR M) a.toNat v:=by
   funext b
   unfold shR up1
   simp only
   rw [getD_setR (by rw [hl];omega)]
  rw [this]
  rfl
 ·
  rw [if_neg q,if_neg q]
  exact h
theorem PairD.runs {M:RDat}{m:Mh}(h:PairD M m)(hz:chk M.c=0)(hT:0≤M.T)(n:Int):runME m n=runE M n∧PairD { M with T:=runT M n } (runMM (cnOf M.c) m n):=by
 have hn:=(h.ok hz hT).2
 have e1:runME m n=runE M n:=by
  unfold runME runE
  rw [hn]
 refine ⟨e1,?_⟩
 have hg:=run_mk (cnOf M.c) (opsR M) (ownR M) (shR M) M.T.toNat n
 rw [← h.run,e1] at hg
 rw [hg]
 by_cases q:runE M n=0
 ·
  rw [if_pos q]
  refine ⟨?_,h.ops⟩
  have hn0:0≤n∧runT M n=M.T+n:=by
   unfold runE at q
   unfold runT
   split at q
   · omega
   ·
    split at q
    · omega
    · next q1 q2=>exact ⟨by omega,by rw [if_neg q1,if_neg q2]⟩
  show Mh.runs (cnOf M.c) (M.T.toNat+n.toNat) (mkM (opsR M) (ownR M) (shR M))=Mh.runs (cnOf M.c) (runT M n).toNat (mkM (opsR M) (ownR M) (shR M))
  rw [hn0.2,show (M.T+n).toNat=M.T.toNat+n.toNat by omega]
 ·
  rw [if_neg q]
  refine ⟨?_,h.ops⟩
  have:runT M n=M.T:=by
   unfold runE at q
   unfold runT
   split
   · rfl
   ·
    split
    · rfl
    · next q1 q2=>rw [if_neg q1,if_neg q2] at q;exact absurd rfl q
  show m=Mh.runs (cnOf M.c) (runT M n).toNat (mkM (opsR M) (ownR M) (shR M))
  rw [this]
  exact h.run
def RLoc.gives (L:RLoc)(i g n:Nat):RLoc:={ L with G:=fun j=>if j=i then g else L.G j,PL:=L.PL.set i (.slice (some ⟨g,0,none⟩) n n) }
theorem RefM.give {w:World}{L:RLoc}{M:RDat}(h:RefM w L M)(i:Nat)(os:List OpT)(hi:i<L.np)(h64:os.length≤64)(hlt:∀ b,L.own b→b<w.heap.size) :
  RefM ((w.alloc (.cells (opsL os).toArray 69)).setCell ⟨L.gp,i,none⟩ (.slice (some ⟨w.heap.size,0,none⟩) os.length os.length)) (L.gives i w.heap.size os.length) { M with pr:=fun j=>if j=i then os else M.pr j }
  ∧Touch L.own w ((w.alloc (.cells (opsL os).toArray 69)).setCell ⟨L.gp,i,none⟩ (.slice (some ⟨w.heap.size,0,none⟩) os.length os.length))
  ∧(∀ b,b<w.heap.size→(L.gives i w.heap.size os.length).own b→L.own b)∧∀ b,(L.gives i w.heap.size os.length).own b→b<w.heap.size+1:=by
 have hbA:Below w.heap.size w (w.alloc (.cells (opsL os).toArray 69)):=(Below.refl _ _).alloc (Nat.le_refl _) _
 have n1:∀ {g A t},Row w g A t→t≠28→Row ((w.alloc (.cells (opsL os).toArray 69)).setCell ⟨L.gp,i,none⟩ (.slice (some ⟨w.heap.size,0,none⟩) os.length os.length)) g A t:=fun hr ht=>
  (hr.alloc _).setCellOther _ _ (fun e=>by subst e;exact ht (row_type hr h.prow))
 have hgp:L.gp<w.heap.size:=hlt _ (Or.inr (Or.inl rfl))
 refine ⟨⟨n1 h.row (by decide),h.np,h.nd,h.ns,(h.prow.alloc _).setCell i _,by show (L.PL.set i _).length=L.np;rw [List.length_set];exact h.plen,fun j hj=>?_,n1 h.orow (by decide),fun d hd=>⟨(h.oat d hd).1,n1 (h.oat d hd).2 (by decide)⟩,h.odis,n1 h.crow (by decide),h.clen,h.cdis,h.right,h.T0,h.T1,fun j hj=>?_⟩,?_,fun b hb ho=>?_,fun b ho=>?_⟩
 ·
  by_cases e:j=i
  ·
   subst e
   right
   simp only [RLoc.gives,if_true]
   refine ⟨by rw [List.getElem?_set_self (by rw [h.plen];exact hi)],?_⟩
   have:Row (w.alloc (.cells (opsL os).toArray 69)) w.heap.size (opsL os) 69:=heap_alloc_new w _
   exact this.setCellOther _ _ (by omega)
  ·
   simp only [RLoc.gives,e,if_false]
   rw [List.getElem?_set_ne (fun q=>e q.symm)]
   rcases h.pat j hj with h1|⟨h1,h2⟩
   · exact Or.inl h1
   · exact Or.inr ⟨h1,n1 h2 (by decide)⟩
 ·
  show (if j=i then os else M.pr j).length≤64
  split
  · exact h64
  · exact h.pmax j hj
 · exact (Touch.of_below hbA (Nat.le_refl _)).trans (Touch.setCell _ _ _ _ (Or.inr (Or.inl rfl)))
 ·
  rcases ho with q | q | q | q | ⟨j,hj,q⟩ | q
  · exact Or.inl q
  · exact Or.inr (Or.inl q)
  · exact Or.inr (Or.inr (Or.inl q))
  · exact Or.inr (Or.inr (Or.inr (Or.inl q)))
  ·
   have q':b=if j=i then w.heap.size else L.G j:=q
   by_cases e:j=i
   · rw [if_pos e] at q';omega
   ·
    rw [if_neg e] at q'
    exact Or.inr (Or.inr (Or.inr (Or.inr (Or.inl ⟨j,hj,q'⟩))))
  · exact Or.inr (Or.inr (Or.inr (Or.inr (Or.inr q))))
 ·
  have own_lt:∀ b,L.own b→b<w.heap.size+1:=fun b hb=>by have:=hlt b hb;omega
  rcases ho with q|q|q|q|⟨j,hj,q⟩|q
  · exact own_lt b (Or.inl q)
  · exact own_lt b (Or.inr (Or.inl q))
  · exact own_lt b (Or.inr (Or.inr (Or.inl q)))
  · exact own_lt b (Or.inr (Or.inr (Or.inr (Or.inl q))))
  ·
   have q':b=if j=i then w.heap.size else L.G j:=q
   by_cases e:j=i
   · rw [if_pos e] at q';omega
   ·
    rw [if_neg e] at q'
    exact own_lt b (Or.inr (Or.inr (Or.inr (Or.inr (Or.inl ⟨j,hj,q'⟩)))))
  · exact own_lt b (Or.inr (Or.inr (Or.inr (Or.inr (Or.inr q)))))
set_option maxHeartbeats 3200000 in
theorem rGive_any (L:RLoc)(M:RDat)(d k:Int)(sa:Option Addr)(len cap:Nat)(os:List OpT)(w:World)(h:RefM w L M)(hlt:∀ b,L.own b→b<w.heap.size)(hO:OpsAt w sa len cap os) :
  Calls Tryz.prog 54 #[.pointer (some ⟨L.gr,0,none⟩),.int .i64 d,.int .i64 k,.slice sa len cap] w fun e w'=>e = .returned (.int .i64 (giveE M d k os))∧∃ L',L'.gr=L.gr∧RefM w' L' (giveM M d k os)∧Touch L.own w w'∧(∀ b,b<w.heap.size→L'.own b→L.own b)∧∀ b,L'.own b→b<w'.heap.size:=by
 have HLT0:Hid _:=hlt
 obtain ⟨i0,hi0,hz0,hz1,hz2⟩:=info_parts Tryz.infoOp
 have T0:=h.T0
 have c0:w.cell? ⟨L.gr,0,none⟩=some (.int .i64 M.c.cores):=by rw [h.row.cell];rfl
 have c1:w.cell? ⟨L.gr,1,none⟩=some (.int .i64 M.c.domains):=by rw [h.row.cell];rfl
 have c13:w.cell? ⟨L.gr,13,none⟩=some (.slice (some ⟨L.gp,0,none⟩) L.np L.np):=by rw [h.row.cell];rfl
 have c16:w.cell? ⟨L.gr,16,none⟩=some (.int .i64 M.T):=by rw [h.row.cell];rfl
 have sb:=(shape_bounds (chk_zero h.right).1)
 have sb1:M.c.domains≤4:=by omega
 have sb2:M.c.cores≤3:=by omega
 have sb3:1≤M.c.cores:=by omega
 have hle:=hO.hle
 have hmx:=hO.hmax
 unfold maxLen at hmx
 have lgr:=h.row.lt
 clear sb
 by_cases hbad:d<0∨M.c.domains≤d∨k<0∨M.c.cores≤k
 ·
  have e1:giveE M d k os=6:=by unfold giveE;rw [if_pos hbad]
  have HE:Hid _:=e1
  have HM:Hid (RefM w L (giveM M d k os)):=by unfold Hid giveM;rw [if_neg (by rw [e1];decide)];exact h
  have cases:d<0∨(0≤d∧M.c.domains≤d)∨(0≤d∧d<M.c.domains∧k<0)∨(0≤d∧d<M.c.domains∧0≤k∧M.c.cores≤k):=by omega
  clear e1 hbad h hO hlt
  rcases cases with b1|⟨b1,b2⟩|⟨b1,b2,b3⟩|⟨b1,b2,b3,b4⟩
  all_goals
   go_enter Tryz.func54,Tryz.ntmps54
   go_wp2
   go_ret
   exact ⟨ret_int HE.out.symm,L,rfl,HM.out,Touch.refl _ _,fun _ _ q=>q,HLT0.out⟩
 ·
  have b1:0≤d:=by omega
  have b2:d<M.c.domains:=by omega
  have b3:0≤k:=by omega
  have b4:k<M.c.cores:=by omega
  by_cases a3:0<M.T
  ·
   have e1:giveE M d k os=7:=by unfold giveE;rw [if_neg hbad,if_pos a3]
   have HE:Hid _:=e1
   have HM:Hid (RefM w L (giveM M d k os)):=by unfold Hid giveM;rw [if_neg (by rw [e1];decide)];exact h
   clear e1 hbad h hO hlt
   go_enter Tryz.func54,Tryz.ntmps54
   go_wp2
   go_ret
   exact ⟨ret_int HE.out.symm,L,rfl,HM.out,Touch.refl _ _,fun _ _ q=>q,HLT0.out⟩
  ·
   obtain ⟨i,rfl⟩:=Int.eq_ofNat_of_zero_le b1
   obtain ⟨j,rfl⟩:=Int.eq_ofNat_of_zero_le b3
   have HEG:Hid (giveE M i j os=if opsOk os=true then 0 else 8):=by unfold Hid giveE;rw [if_neg hbad,if_neg a3]
   have HM8:Hid (opsOk os=false→RefM w L (giveM M i j os)):=fun q=>by unfold giveM;rw [if_neg (by rw [HEG.out,q];decide)];exact h
   have HL:Hid _:=hO.hlen
   have HO:Hid _:=hO
   have HH:Hid _:=h
   have HLT:Hid _:=hlt
   have hcp:=run_copy_made (P:=Tryz.prog) w 28 28 3 69 3 Tryz.underlying28 (by rw [hi0];simp [hz1]) sa len len cap (#[.int .i64 0,.int .i64 0,.int .i64 0]) 69 (opsL os) (by rw [opsL_len,hO.hlen]) (fun h0=>hO.src h0) (opsL_one os)
   obtain ⟨nc,hnc⟩:∃ nc,M.c.cores.toNat=nc:=⟨_,rfl⟩
   have hcn:M.c.cores=(nc:Int):=by omega
   have HNC:Hid _:=hnc
   have hjn:j<nc:=by omega
   have hnp:(L.np:Int)=M.c.domains*nc:=by rw [← hcn];exact h.np
   have hidx:i*nc+j<L.np:=by
    have q:(i+1)*nc≤M.c.domains.toNat*nc:=Nat.mul_le_mul_right _ (by omega)
    have q2:((M.c.domains.toNat*nc:Nat):Int)=M.c.domains*nc:=by rw [Int.natCast_mul,show ((M.c.domains.toNat:Nat):Int)=M.c.domains by omega]
    rw [Nat.add_mul,Nat.one_mul] at q
    omega
   have hi12:i*nc≤12:=by have:=Nat.mul_le_mul (show i≤4 by omega) (show nc≤3 by omega);omega
   obtain ⟨im,him⟩:∃ im,i*nc=im:=⟨_,rfl⟩
   have hmul:(i:Int)*(nc:Int)=(im:Int):=by rw [← him];simp
   have hwmul:IntKind.i64.wrap ((i:Int)*(nc:Int))=(im:Int):=by rw [hmul,IntKind.wrap_i64];omega
   rw [him] at hidx hi12
   have HIM:Hid _:=him
   rw [hcn] at c0
   have hnp12:L.np≤12:=by
    have q2:((M.c.domains.toNat*nc:Nat):Int)=M.c.domains*nc:=by rw [Int.natCast_mul,show ((M.c.domains.toNat:Nat):Int)=M.c.domains by omega]
    have:=Nat.mul_le_mul (show M.c.domains.toNat≤4 by omega) (show nc≤3 by omega)
    omega
   obtain ⟨pv,hpv⟩:∃ pv,L.PL[im+j]? = some pv:=⟨_,List.getElem?_eq_getElem (by rw [h.plen];exact hidx)⟩
   have cp:w.cell? ⟨L.gp,im+j,none⟩=some pv:=(h.prow.cell _).trans hpv
   have fp:=h.prow.frozen (im+j)
   have lgp:=h.prow.lt
   clear hbad h hlt hnc hcn hnp hpv him hmul
   go_enter Tryz.func54,Tryz.ntmps54
   go_wp2_with fail
   go_loop [9] (fun u=>∃ q:Nat,q≤len∧u = .int .i64 q∧(os.take q).all kindB=true) (fun u=>len-(intOf u).toNat)
   case atStart=>exact ⟨0,by omega,rfl,by simp⟩
   case round=>
    obtain ⟨q,hq,rfl,hall⟩:=hrel
    have HA:Hid _:=hall
    clear hall
    by_cases hlt:q<len
    ·
     obtain ⟨b,off,rfl,f1,_,_⟩:=hO.hat q hlt
     have HS:Hid _:=all_take (os:=os) (i:=q) (by rw [HL.out];exact hlt)
     have HF:Hid (kindB (os.getD q opZ)=((os.getD q opZ).1==0 || (os.getD q opZ).1==1)):=rfl
     have HN:Hid (kindB (os.getD q opZ)=false→os.all kindB=false):=fun hf=>by
      have hm:os.getD q opZ∈os:=by rw [List.getD_eq_getElem?_getD,List.getElem?_eq_getElem (by rw [HL.out];exact hlt)];exact List.getElem_mem _
      rw [List.all_eq_false]
      exact ⟨_,hm,by rw [hf];simp⟩
     generalize (os.getD q opZ).1=kd at *
     clear hcp
     by_cases b1:kd=0
     ·
      have b1b:(kd==0)=true:=by simp [b1]
      have HK:Hid (kindB (os.getD q opZ)=true):=by unfold Hid;rw [HF.out,b1b];rfl
      subst b1
      clear b1b
      go_wp2_with fail
      go_round
      case rel=>exact ⟨q+1,by omega,by go_num,by rw [HS.out,HA.out,HK.out];rfl⟩
      case measure=>simp [intOf];omega
     ·
      have b1b:(kd==0)=false:=by simp [b1]
      by_cases b2:kd=1
      ·
       have b2b:(kd==1)=true:=by simp [b2]
       have HK:Hid (kindB (os.getD q opZ)=true):=by unfold Hid;rw [HF.out,b1b,b2b];rfl
       subst b2
       clear b1 b1b b2b
       go_wp2_with fail
       go_round
       case rel=>exact ⟨q+1,by omega,by go_num,by rw [HS.out,HA.out,HK.out];rfl⟩
       case measure=>simp [intOf];omega
      ·
       have b2b:(kd==1)=false:=by simp [b2]
       have HK:Hid (opsOk os=false):=by
        unfold Hid opsOk
        rw [HN.out (by rw [HF.out,b1b,b2b];rfl),Bool.and_false]
       have b1c:(kd != 0)=true:=by simp [b1]
       have b2c:(kd != 1)=true:=by simp [b2]
       go_wp2
       go_ret
       exact ⟨ret_int (by rw [HEG.out,HK.out];rfl),L,rfl,HM8.out HK.out,Touch.refl _ _,fun _ _ q=>q,HLT0.out⟩
    ·
     have HK:Hid (os.all kindB=true):=by have:=HA.out;rw [List.take_of_length_le (by rw [HL.out];omega)] at this;exact this
     by_cases h64:64<len
     ·
      have HK2:Hid (opsOk os=false):=by unfold Hid opsOk;rw [decide_eq_false (by rw [HL.out];omega),Bool.false_and]
      clear hcp
      go_wp2
      go_ret
      exact ⟨ret_int (by rw [HEG.out,HK2.out];rfl),L,rfl,HM8.out HK2.out,Touch.refl _ _,fun _ _ q=>q,HLT0.out⟩
     ·
      have HK2:Hid (opsOk os=true):=by unfold Hid opsOk;rw [decide_eq_true (by rw [HL.out];omega),HK.out];rfl
      have hg0:=HH.out.give (im+j) os hidx (by rw [HL.out];omega) HLT.out
      rw [World.setCell_alloc_past _ _ _ _ lgp] at hg0
      have HG:Hid _:=hg0
      clear hg0
      have HGM:Hid (giveM M i j os={ M with pr:=fun q=>if q=im+j then os else M.pr q }):=by unfold Hid giveM;rw [if_pos (by rw [HEG.out,HK2.out];rfl),HNC.out,Int.toNat_natCast,Int.toNat_natCast,HIM.out]
      rw [HL.out] at HG
      have hx0:(0:Int)≤(im:Int)+(j:Int):=by omega
      have hx1:(im:Int)+(j:Int)<(L.np:Int):=by omega
      have hwx:IntKind.i64.wrap ((im:Int)+(j:Int))=(im:Int)+(j:Int):=by rw [IntKind.wrap_i64];omega
      have hxt:((im:Int)+(j:Int)).toNat=im+j:=by omega
      go_wp2_with (at_make;refine wpList_make_exact _ rfl _ _ 28 rfl 69 i0 _ Tryz.underlying28 hi0 hz0 .i64 .i64 _ _ len rfl rfl (by simp) (by simp) (by rw [hz2];omega) (by unfold maxLen;omega) ?_;rw [hz1])
      all_goals go_region_with (fail)
      all_goals go_wp2_with fail
      all_goals go_ret
      all_goals exact ⟨ret_int (by rw [HEG.out,HK2.out];rfl),L.gives (im+j) w.heap.size len,rfl,by rw [HGM.out];exact HG.out.1.same (fun _ _=>rfl),HG.out.2.1.trans ⟨rfl,rfl,rfl,Nat.le_refl _,fun _ _ _=>rfl⟩,HG.out.2.2.1,fun b hb=>by have:=HG.out.2.2.2 b hb;show b<((w.setCell _ _).alloc _).heap.size;rw [World.size_alloc];simp only [World.setCell];simpa using this⟩
theorem MachM.same {w w':World}{N:Cn}{X:XLoc}{m:Mh}(h:MachM w N X m)(hsz:w.heap.size≤w'.heap.size)(hs:∀ b,X.mine b→w'.heap[b]? = w.heap[b]?):MachM w' N X m:=by
 have k:=h.kin (w':=w') (fun _=>False) (fun b l hl _=>hs b (by unfold XLoc.mine;rw [hl];simp))
 have kc:=k.cfg (fun h=>h)
 exact ⟨h.nok,h.right,h.now0,h.now1,k.row (fun h=>h),kc.1,k.mem (fun h=>h) (fun h=>h),k.near (fun h=>h) (fun h=>h),k.dom (fun h=>h),h.dcap,fun d hd=>k.prg d hd (fun h=>h),k.ops (fun h=>h),fun d hd=>k.far d hd (fun h=>h) (fun h=>h),fun d hd=>k.wait d hd (fun h=>h),fun d hd=>k.trc d hd (fun h=>h),k.wks (fun h=>h),h.labs.grow hsz kc.2⟩
structure MS (W w:World)(zone:Nat→Option Nat)(n:Nat)(X:Nat→XLoc)(m:Nat→Mh)(L:Nat→RLoc)(M:Nat→RDat):Prop where
 mach:∀ j,j<n→MachM w (cnOf (M j).c) (X j) (m j)
 ref:∀ j,j<n→RefM w (L j) (M j)
 cfg:∀ j,j<n→CfgAt W (M j).c (M j).s
 pair:∀ j,j<n→PairD (M j) (m j)
 zx:∀ j b,j<n→(X j).mine b→zone b=some (2*j)
 zl:∀ j b,j<n→(L j).own b→zone b=some (2*j+1)
 zlt:∀ b,zone b≠none→W.heap.size≤b∧b<w.heap.size
theorem MS.keep {W w w':World}{zone:Nat→Option Nat}{n:Nat}{X:Nat→XLoc}{m:Nat→Mh}{L:Nat→RLoc}{M:Nat→RDat}(h:MS W w zone n X m L M)(hsz:w.heap.size≤w'.heap.size)(hk:∀ b,zone b≠none→w'.heap[b]? = w.heap[b]?):MS W w' zone n X m L M:=
 ⟨fun j hj=>(h.mach j hj).same hsz (fun b hb=>hk b (by rw [h.zx j b hj hb];simp)),fun j hj=>(h.ref j hj).same (fun b hb=>hk b (by rw [h.zl j b hj hb];simp)),h.cfg,h.pair,h.zx,h.zl,fun b hb=>⟨(h.zlt b hb).1,Nat.lt_of_lt_of_le (h.zlt b hb).2 hsz⟩⟩
theorem MS.below {W w w':World}{zone:Nat→Option Nat}{n:Nat}{X:Nat→XLoc}{m:Nat→Mh}{L:Nat→RLoc}{M:Nat→RDat}(h:MS W w zone n X m L M)(hb:Below w.heap.size w w'):MS W w' zone n X m L M:=
 h.keep hb.size (fun b hz=>hb.block b (h.zlt b hz).2)
theorem MS.start (W w:World)(X:Nat→XLoc)(m:Nat→Mh)(L:Nat→RLoc)(M:Nat→RDat):MS W w (fun _=>none) 0 X m L M:=
 ⟨fun j hj=>by omega,fun j hj=>by omega,fun j hj=>by omega,fun j hj=>by omega,fun j b hj=>by omega,fun j b hj=>by omega,fun b hb=>absurd rfl hb⟩
theorem MS.aside {W w w1:World}{zone:Nat→Option Nat}{n:Nat}{X:Nat→XLoc}{m:Nat→Mh}{L:Nat→RLoc}{M:Nat→RDat}(h:MS W w zone n X m L M){j:Nat}(hj:j<n){X':XLoc}(hg:Goes w w1 (X j) X'):RefM w1 (L j) (M j)∧∀ b,(L j).own b→b<w1.heap.size:=by
 have hlt:∀ b,(L j).own b→b<w.heap.size:=fun b hb=>(h.zlt b (by rw [h.zl j b hj hb];simp)).2
 refine ⟨(h.ref j hj).same (fun b hb=>hg.tch.block b (hlt b hb) (fun hx=>?_)),fun b hb=>Nat.lt_of_lt_of_le (hlt b hb) hg.tch.size⟩
 have e1:=h.zl j b hj hb
 have e2:=h.zx j b hj hx
 rw [e1] at e2
 simp only [Option.some.injEq] at e2
 omega
def upd {α:Type}(f:Nat→α)(j:Nat)(v:α):Nat→α:=fun i=>if i=j then v else f i
theorem upd_at {α:Type}(f:Nat→α)(j:Nat)(v:α):upd f j v j=v:=by simp [upd]
theorem upd_ne {α:Type}(f:Nat→α){i j:Nat}(v:α)(h:i≠j):upd f j v i=f i:=by simp [upd,h]
theorem MS.both {W w w1 w2:World}{zone:Nat→Option Nat}{n:Nat}{X:Nat→XLoc}{m:Nat→Mh}{L:Nat→RLoc}{M:Nat→RDat}(h:MS W w zone n X m L M){j:Nat}(hj:j<n){X':XLoc}{m':Mh}{L':RLoc}{M':RDat}
  (hM:MachM w1 (cnOf (M j).c) X' m') (hg:Goes w w1 (X j) X') (hR:RefM w2 L' M') (hT:Touch (L j).own w1 w2) (hL:∀ b,b<w1.heap.size→L'.own b→(L j).own b) (hlt:∀ b,L'.own b→b<w2.heap.size) (hc:M'.c=(M j).c) (hs:M'.s=(M j).s) (hp:PairD M' m') :
  ∃ zone',MS W w2 zone' n (upd X j X') (upd m j m') (upd L j L') (upd M j M')∧(∀ b,b<w.heap.size→zone' b=zone b)∧Touch (fun b=>zone b≠none) w w2:=by
 classical
 have s1:=hg.tch.size
 have s2:=hT.size
 have xlt:∀ b,(X j).mine b→b<w.heap.size:=fun b hb=>(h.zlt b (by rw [h.zx j b hj hb];simp)).2
 have llt:∀ b,(L j).own b→b<w.heap.size:=fun b hb=>(h.zlt b (by rw [h.zl j b hj hb];simp)).2
 have x1:∀ b,X'.mine b→b<w1.heap.size:=fun b hb=>hM.labs.lt b hb
 have keepO:∀ b,b<w.heap.size→¬(X j).mine b→¬(L j).own b→w2.heap[b]? = w.heap[b]? := fun b hb h1 h2=>(hT.block b (by omega) h2).trans (hg.tch.block b hb h1)
 refine ⟨fun b=>if b<w.heap.size then zone b else if X'.mine b then some (2*j) else if L'.own b then some (2*j+1) else none,⟨fun i hi=>?_,fun i hi=>?_,fun i hi=>?_,fun i hi=>?_,fun i b hi hb=>?_,fun i b hi hb=>?_,fun b hb=>?_⟩,fun b hb=>by simp [hb],⟨hT.os.trans hg.tch.os,hT.tape.trans hg.tch.tape,hT.output.trans hg.tch.output,Nat.le_trans s1 s2,fun b hb hz=>keepO b hb (fun q=>hz (by rw [h.zx j b hj q];simp)) (fun q=>hz (by rw [h.zl j b hj q];simp))⟩⟩
 ·
  by_cases e:i=j
  ·
   subst e
   rw [upd_at,upd_at,upd_at,hc]
   refine hM.same s2 (fun b hb=>hT.block b (x1 b hb) (fun ho=>?_))
   have hbw:=llt b ho
   have e1:=h.zx i b hi (hg.lab b hbw hb)
   have e2:=h.zl i b hi ho
   rw [e1] at e2
   simp only [Option.some.injEq] at e2
   omega
  ·
   rw [upd_ne _ _ e,upd_ne _ _ e,upd_ne _ _ e]
   refine (h.mach i hi).same (Nat.le_trans s1 s2) (fun b hb=>?_)
   have ez:=h.zx i b hi hb
   refine keepO b (h.zlt b (by rw [ez];simp)).2 (fun q=>?_) (fun q=>?_)
   · have:=h.zx j b hj q;rw [ez] at this;simp only [Option.some.injEq] at this;omega
   · have:=h.zl j b hj q;rw [ez] at this;simp only [Option.some.injEq] at this;omega
 ·
  by_cases e:i=j
  ·
   subst e
   rw [upd_at,upd_at]
   exact hR
  ·
   rw [upd_ne _ _ e,upd_ne _ _ e]
   refine (h.ref i hi).same (fun b hb=>?_)
   have ez:=h.zl i b hi hb
   refine keepO b (h.zlt b (by rw [ez];simp)).2 (fun q=>?_) (fun q=>?_)
   · have:=h.zx j b hj q;rw [ez] at this;simp only [Option.some.injEq] at this;omega
   · have:=h.zl j b hj q;rw [ez] at this;simp only [Option.some.injEq] at this;omega
 ·
  by_cases e:i=j
  ·
   subst e
   rw [upd_at,hc,hs]
   exact h.cfg i hi
  ·
   rw [upd_ne _ _ e]
   exact h.cfg i hi
 ·
  by_cases e:i=j
  ·
   subst e
   rw [upd_at,upd_at]
   exact hp
  ·
   rw [upd_ne _ _ e,upd_ne _ _ e]
   exact h.pair i hi
 ·
  by_cases e:i=j
  ·
   subst e
   rw [upd_at] at hb
   by_cases q:b<w.heap.size
   ·
    rw [if_pos q]
    exact h.zx i b hi (hg.lab b q hb)
   · rw [if_neg q,if_pos hb]
  ·
   rw [upd_ne _ _ e] at hb
   have ez:=h.zx i b hi hb
   rw [if_pos (h.zlt b (by rw [ez];simp)).2]
   exact ez
 ·
  by_cases e:i=j
  ·
   subst e
   rw [upd_at] at hb
   by_cases q:b<w.heap.size
   ·
    rw [if_pos q]
    exact h.zl i b hi (hL b (by omega) hb)
   ·
    rw [if_neg q]
    have hn:¬X'.mine b:=fun hx=>by
     have:=llt b (hL b (x1 b hx) hb)
     omega
    rw [if_neg hn,if_pos hb]
  ·
   rw [upd_ne _ _ e] at hb
   have ez:=h.zl i b hi hb
   rw [if_pos (h.zlt b (by rw [ez];simp)).2]
   exact ez
 ·
  by_cases q:b<w.heap.size
  ·
   simp only [q,if_true] at hb
   exact ⟨(h.zlt b hb).1,by omega⟩
  ·
   simp only [q,if_false] at hb
   have hW:W.heap.size≤w.heap.size:=by
    have hx:=h.mach j hj
    have:=h.zlt (X j).g (by rw [h.zx j (X j).g hj (by unfold XLoc.mine;rw [hx.labs.g];simp)];simp)
    omega
   by_cases r:X'.mine b
   ·
    have:=x1 b r
    exact ⟨by omega,by omega⟩
   ·
    simp only [r,if_false] at hb
    by_cases t:L'.own b
    · exact ⟨by omega,hlt b t⟩
    · simp [t] at hb
theorem MS.more {W w w':World}{zone:Nat→Option Nat}{n:Nat}{X:Nat→XLoc}{m:Nat→Mh}{L:Nat→RLoc}{M:Nat→RDat}(h:MS W w zone n X m L M){X':XLoc}{m':Mh}{L':RLoc}{M':RDat}(hW:W.heap.size≤w.heap.size)
  (hM:MachM w' (cnOf M'.c) X' m') (hR:RefM w' L' M') (hx:∀ b,X'.mine b→w.heap.size≤b) (hl:∀ b,L'.own b→w.heap.size≤b∧b<w'.heap.size) (hd:∀ b,X'.mine b→¬L'.own b) (hc:CfgAt W M'.c M'.s) (hp:PairD M' m') (hsz:w.heap.size≤w'.heap.size) (hk:∀ b,zone b≠none→w'.heap[b]? = w.heap[b]?) :
  ∃ zone',MS W w' zone' (n+1) (upd X n X') (upd m n m') (upd L n L') (upd M n M')∧(∀ b,b<w.heap.size→zone' b=zone b)∧∀ b,w.heap.size≤b→zone' b≠none→X'.mine b∨L'.own b:=by
 classical
 have h':=h.keep hsz hk
 refine ⟨fun b=>if b<w.heap.size then zone b else if X'.mine b then some (2*n) else if L'.own b then some (2*n+1) else none,⟨fun i hi=>?_,fun i hi=>?_,fun i hi=>?_,fun i hi=>?_,fun i b hi hb=>?_,fun i b hi hb=>?_,fun b hb=>?_⟩,fun b hb=>by simp [hb],fun b hb hz=>by
  have q:¬b<w.heap.size:=by omega
  simp only [q,if_false] at hz
  by_cases r:X'.mine b
  · exact Or.inl r
  ·
   by_cases t:L'.own b
   · exact Or.inr t
   · simp [r,t] at hz⟩
 ·
  by_cases e:i=n
  · subst e;rw [upd_at,upd_at,upd_at];exact hM
  · rw [upd_ne _ _ e,upd_ne _ _ e,upd_ne _ _ e];exact h'.mach i (by omega)
 ·
  by_cases e:i=n
  · subst e;rw [upd_at,upd_at];exact hR
  · rw [upd_ne _ _ e,upd_ne _ _ e];exact h'.ref i (by omega)
 ·
  by_cases e:i=n
  · subst e;rw [upd_at];exact hc
  · rw [upd_ne _ _ e];exact h.cfg i (by omega)
 ·
  by_cases e:i=n
  · subst e;rw [upd_at,upd_at];exact hp
  · rw [upd_ne _ _ e,upd_ne _ _ e];exact h.pair i (by omega)
 ·
  by_cases e:i=n
  ·
   subst e
   rw [upd_at] at hb
   rw [if_neg (by have:=hx b hb;omega),if_pos hb]
  ·
   rw [upd_ne _ _ e] at hb
   have ez:=h.zx i b (by omega) hb
   rw [if_pos (h.zlt b (by rw [ez];simp)).2]
   exact ez
 ·
  by_cases e:i=n
  ·
   subst e
   rw [upd_at] at hb
   rw [if_neg (by have:=(hl b hb).1;omega),if_neg (fun q=>hd b q hb),if_pos hb]
  ·
   rw [upd_ne _ _ e] at hb
   have ez:=h.zl i b (by omega) hb
   rw [if_pos (h.zlt b (by rw [ez];simp)).2]
   exact ez
 ·
  by_cases q:b<w.heap.size
  ·
   simp only [q,if_true] at hb
   exact ⟨(h.zlt b hb).1,by omega⟩
  ·
   simp only [q,if_false] at hb
   by_cases r:X'.mine b
   · exact ⟨by omega,hM.labs.lt b r⟩
   ·
    simp only [r,if_false] at hb
    by_cases t:L'.own b
    · exact ⟨by omega,(hl b t).2⟩
    · simp [t] at hb
theorem flat_same {α β:Type}{f g:α→List β}:∀ {l:List α},(∀ x,x∈l→f x=g x)→l.flatMap f=l.flatMap g
 | [],_=>rfl
 | x::l,h=>by rw [List.flatMap_cons,List.flatMap_cons,h x (List.mem_cons_self ..),flat_same (fun y hy=>h y (List.mem_cons_of_mem _ hy))]
def pairsL (X:Nat→XLoc)(L:Nat→RLoc)(n:Nat):List Value:=(List.range n).flatMap fun j=>[.pointer (some ⟨(X j).g,0,none⟩),.pointer (some ⟨(L j).gr,0,none⟩)]
theorem pairs_more (X:Nat→XLoc)(L:Nat→RLoc)(n:Nat)(X':XLoc)(L':RLoc):pairsL (upd X n X') (upd L n L') (n+1)=pairsL X L n++[.pointer (some ⟨X'.g,0,none⟩),.pointer (some ⟨L'.gr,0,none⟩)]:=by
 unfold pairsL
 rw [List.range_succ,List.flatMap_append]
 congr 1
 ·
  apply flat_same
  intro j hj
  have:j≠n:=by have:=List.mem_range.1 hj;omega
  rw [upd_ne _ _ this,upd_ne _ _ this]
 · simp [upd_at]
theorem pairs_same (X:Nat→XLoc)(L:Nat→RLoc)(n j:Nat)(X':XLoc)(L':RLoc)(h1:X'.g=(X j).g)(h2:L'.gr=(L j).gr):pairsL (upd X j X') (upd L j L') n=pairsL X L n:=by
 unfold pairsL
 apply flat_same
 intro i _
 by_cases e:i=j
 · subst e;rw [upd_at,upd_at,h1,h2]
 · rw [upd_ne _ _ e,upd_ne _ _ e]
theorem WSt.keepU {w w':World}{gw base:Nat}{o:Own}{m e p b:Value}{ts:List Int}{os:List (Int × Int × Int)}(h:WSt w gw base o m e p b ts os)(hk:∀ b,UB gw o b→w'.heap[b]? = w.heap[b]?):WSt w' gw base o m e p b ts os:=
 ⟨h.row.same (hk gw (Or.inl rfl)),h.hb,owns_same h.tou (fun g hg=>hk g (Or.inr (Or.inl hg))),owns_same h.ops (fun g hg=>hk g (Or.inr (Or.inr hg)))⟩
structure MI (W wr:World)(o:Own)(e p b:Value)(ts:List Int)(os:List (Int × Int × Int))(zone:Nat→Option Nat)(n:Nat)(X:Nat→XLoc)(m:Nat→Mh)(L:Nat→RLoc)(M:Nat→RDat)(ma:Option Addr)(mc:Nat):Prop where
 ws:WSt wr W.heap.size W.heap.size o (.slice ma n mc) e p b ts os
 ms:MS W wr zone n X m L M
 own:wr.ownsRow W.heap.size 50 2 (.slice ma n mc) n (pairsL X L n)
 zu:∀ b,UB W.heap.size o b→zone b=none
 zm:∀ b,(Value.slice ma n mc).ownBlock=some b→zone b=none
 bel:Below W.heap.size W wr
def MZ (gw:Nat)(o:Own)(zone:Nat→Option Nat)(v:Value)(b:Nat):Prop:=zone b≠none∨UB gw o b∨v.ownBlock=some b
theorem MI.ub_lt {W wr:World}{o:Own}{e p b:Value}{ts:List Int}{os:List (Int × Int × Int)}{zone:Nat→Option Nat}{n:Nat}{X:Nat→XLoc}{m:Nat→Mh}{L:Nat→RLoc}{M:Nat→RDat}{ma:Option Addr}{mc:Nat}(h:MI W wr o e p b ts os zone n X m L M ma mc){g:Nat}(hu:UB W.heap.size o g):g<wr.heap.size:=by
 rcases hu with q|q|q
 · subst q;exact h.ws.row.lt
 · exact (owns_lt h.ws.tou g q).1
 · exact (owns_lt h.ws.ops g q).1
theorem MI.lt {W wr:World}{o:Own}{e p b:Value}{ts:List Int}{os:List (Int × Int × Int)}{zone:Nat→Option Nat}{n:Nat}{X:Nat→XLoc}{m:Nat→Mh}{L:Nat→RLoc}{M:Nat→RDat}{ma:Option Addr}{mc:Nat}(h:MI W wr o e p b ts os zone n X m L M ma mc){g:Nat}(hz:MZ W.heap.size o zone (.slice ma n mc) g):g<wr.heap.size:=by
 rcases hz with q|q|q
 · exact (h.ms.zlt g q).2
 · exact h.ub_lt q
 · exact (owns_lt h.own g q).1
theorem MI.apart {W wr:World}{o:Own}{e p b:Value}{ts:List Int}{os:List (Int × Int × Int)}{zone:Nat→Option Nat}{n:Nat}{X:Nat→XLoc}{m:Nat→Mh}{L:Nat→RLoc}{M:Nat→RDat}{ma:Option Addr}{mc:Nat}(h:MI W wr o e p b ts os zone n X m L M ma mc){g:Nat}(hg:(Value.slice ma n mc).ownBlock=some g):¬UB W.heap.size o g:=by
 rintro (q|q|q)
 · subst q;exact own_ne h.own h.ws.row (by decide) hg
 · exact owns_apart h.own h.ws.tou (by decide) g hg q
 · exact owns_apart h.own h.ws.ops (by decide) g hg q
theorem MI.below {W wr w':World}{o:Own}{e p b:Value}{ts:List Int}{os:List (Int × Int × Int)}{zone:Nat→Option Nat}{n:Nat}{X:Nat→XLoc}{m:Nat→Mh}{L:Nat→RLoc}{M:Nat→RDat}{ma:Option Addr}{mc:Nat}(h:MI W wr o e p b ts os zone n X m L M ma mc)(hb:Below wr.heap.size wr w'):MI W w' o e p b ts os zone n X m L M ma mc:=
 ⟨h.ws.below hb rfl,h.ms.below hb,owns_same h.own (fun g hg=>hb.block g (owns_lt h.own g hg).1),h.zu,h.zm,below_step h.bel hb rfl⟩
theorem MI.owner {W wr w':World}{o o':Own}{e p b:Value}{ts ts':List Int}{os os':List (Int × Int × Int)}{zone:Nat→Option Nat}{n:Nat}{X:Nat→XLoc}{m:Nat→Mh}{L:Nat→RLoc}{M:Nat→RDat}{ma:Option Addr}{mc:Nat}(h:MI W wr o e p b ts os zone n X m L M ma mc)
  (hw:WSt w' W.heap.size W.heap.size o' (.slice ma n mc) e p b ts' os') (hb:Below W.heap.size wr w') (hg:OwnGo W.heap.size o o' wr w') :
  MI W w' o' e p b ts' os' zone n X m L M ma mc∧Touch (MZ W.heap.size o zone (.slice ma n mc)) wr w'∧∀ b,b<wr.heap.size→MZ W.heap.size o' zone (.slice ma n mc) b→MZ W.heap.size o zone (.slice ma n mc) b:=by
 refine ⟨⟨hw,h.ms.keep hg.1.size (fun b hz=>hg.1.block b (h.ms.zlt b hz).2 (fun hu=>hz (h.zu b hu))),owns_same h.own (fun g hg'=>hg.1.block g (owns_lt h.own g hg').1 (h.apart hg')),fun b hu=>?_,h.zm,h.bel.trans hb⟩,hg.1.mono (fun b hu=>Or.inr (Or.inl hu)),fun b hb' hz=>?_⟩
 ·
  refine Classical.byContradiction fun hz=>?_
  exact hz (h.zu b (hg.2 b (h.ms.zlt b hz).2 hu))
 ·
  rcases hz with q | q | q
  · exact Or.inl q
  · exact Or.inr (Or.inl (hg.2 b hb' q))
  · exact Or.inr (Or.inr q)
theorem MI.call {W w w2:World}{o:Own}{e p b:Value}{ts:List Int}{os:List (Int × Int × Int)}{zone zone':Nat→Option Nat}{n:Nat}{X X':Nat→XLoc}{m m':Nat→Mh}{L L':Nat→RLoc}{M M':Nat→RDat}{ma:Option Addr}{mc:Nat}(h:MI W w o e p b ts os zone n X m L M ma mc)
  (hms:MS W w2 zone' n X' m' L' M') (hz:∀ b,b<w.heap.size→zone' b=zone b) (hT:Touch (fun b=>zone b≠none) w w2) (hp:pairsL X' L' n=pairsL X L n) :
  MI W w2 o e p b ts os zone' n X' m' L' M' ma mc∧Touch (MZ W.heap.size o zone (.slice ma n mc)) w w2∧∀ b,b<w.heap.size→MZ W.heap.size o zone' (.slice ma n mc) b→MZ W.heap.size o zone (.slice ma n mc) b:=by
 refine ⟨⟨h.ws.keepU (fun b hu=>hT.block b (h.ub_lt hu) (fun q=>q (h.zu b hu))),hms,by rw [hp];exact owns_same h.own (fun g hg=>hT.block g (owns_lt h.own g hg).1 (fun q=>q (h.zm g hg))),fun b hu=>by rw [hz b (h.ub_lt hu)];exact h.zu b hu,fun b hg=>by rw [hz b (owns_lt h.own b hg).1];exact h.zm b hg,?_⟩,hT.mono (fun b q=>Or.inl q),fun b hb hq=>?_⟩
 · exact h.bel.trans (hT.below _ h.bel.size (fun b q=>(h.ms.zlt b q).1))
 ·
  rcases hq with q | q | q
  · rw [hz b hb] at q;exact Or.inl q
  · exact Or.inr (Or.inl q)
  · exact Or.inr (Or.inr q)
theorem flatP (f:Nat→List Value)(z:Nat)(hf:∀ i,(f i).length=z):∀ n:Nat,((List.range n).flatMap f).length=n*z∧∀ i j,i<n→j<z→((List.range n).flatMap f)[i*z+j]? = (f i)[j]?
 | 0=>⟨by simp,fun i j hi=>by omega⟩
 | n+1=>by
  obtain ⟨h1,h2⟩:=flatP f z hf n
  rw [List.range_succ,List.flatMap_append]
  have e:[n].flatMap f=f n:=by simp
  rw [e]
  refine ⟨by rw [List.length_append,h1,hf,Nat.succ_mul],fun i j hi hj=>?_⟩
  by_cases c:i<n
  ·
   have hlt:i*z+j<n*z:=by
    have:(i+1)*z≤n*z:=Nat.mul_le_mul_right _ c
    rw [Nat.succ_mul] at this
    omega
   rw [List.getElem?_append_left (by rw [h1];exact hlt),h2 i j c hj]
  ·
   have ei:i=n:=by omega
   subst ei
   rw [List.getElem?_append_right (by rw [h1];omega),h1,show i*z+j-i*z=j by omega]
theorem pairs_at {X:Nat→XLoc}{L:Nat→RLoc}{n j:Nat}(hj:j<n):(pairsL X L n)[j*2]? = some (.pointer (some ⟨(X j).g,0,none⟩))∧(pairsL X L n)[j*2+1]? = some (.pointer (some ⟨(L j).gr,0,none⟩)):=by
 have h:=flatP (fun j=>[Value.pointer (some ⟨(X j).g,0,none⟩),.pointer (some ⟨(L j).gr,0,none⟩)]) 2 (fun _=>rfl) n
 exact ⟨h.2 j 0 hj (by omega),h.2 j 1 hj (by omega)⟩
theorem MI.pair {W wr:World}{o:Own}{e p b:Value}{ts:List Int}{os:List (Int × Int × Int)}{zone:Nat→Option Nat}{n:Nat}{X:Nat→XLoc}{m:Nat→Mh}{L:Nat→RLoc}{M:Nat→RDat}{ma:Option Addr}{mc:Nat}(h:MI W wr o e p b ts os zone n X m L M ma mc){j:Nat}(hj:j<n) :
  ∃ g,ma=some ⟨g,0,none⟩∧n≤mc∧mc≤maxLen∧g<wr.heap.size∧wr.cell? ⟨g,j*2,none⟩=some (.pointer (some ⟨(X j).g,0,none⟩))∧wr.cell? ⟨g,j*2+1,none⟩=some (.pointer (some ⟨(L j).gr,0,none⟩)):=by
 obtain ⟨g,cap,hv,_,_⟩:=World.ownsRow.form h.own (by omega)
 simp only [Value.slice.injEq] at hv
 obtain ⟨e1,_,e2⟩:=hv
 subst e1
 have hc:=owns_cells h.own (fun i=>if i%2=0 then .pointer (some ⟨(X (i / 2)).g,0,none⟩) else .pointer (some ⟨(L (i / 2)).gr,0,none⟩)) (fun i hi=>by
  have hp:=pairs_at (X:=X) (L:=L) (n:=n) (j:=i / 2) (by omega)
  by_cases q:i%2=0
  ·
   rw [if_pos q]
   have:i=i / 2*2:=by omega
   rw [← hp.1,← this]
  ·
   rw [if_neg q]
   have:i=i / 2*2+1:=by omega
   rw [← hp.2,← this])
 refine ⟨g,rfl,hc.2.1,hc.2.2.1,hc.2.2.2.2,?_,?_⟩
 · rw [hc.1.cell (by omega),if_pos (by omega),show j*2 / 2=j by omega]
 · rw [hc.1.cell (by omega),if_neg (by omega),show (j*2+1) / 2=j by omega]
theorem ints_src {w:World}{sa:Option Addr}{len cap:Nat}{xs:List Int}(h:Ints w sa len cap xs)(h0:0<len):∃ ad,sa=some ad∧∀ j v,(xs.map (Value.int .i64))[j]? = some v→w.cell? (ad.add j)=some v:=by
 obtain ⟨b,off,h1,_⟩:=h.hat 0 h0
 refine ⟨⟨b,off,none⟩,h1,fun j v hj=>?_⟩
 have hlt:j<xs.length:=by
  have:=(List.getElem?_eq_some_iff.1 hj).1
  simpa using this
 obtain ⟨b',off',h2,h3⟩:=h.hat j (by rw [← h.hlen];exact hlt)
 rw [h1] at h2
 simp only [Option.some.injEq,Addr.mk.injEq] at h2
 obtain ⟨rfl,rfl,_⟩:=h2
 rw [add_plain',h3]
 rw [List.getElem?_map] at hj
 simp [List.getElem?_eq_getElem hlt] at hj
 simp [List.getD,List.getElem?_eq_getElem hlt,hj]
set_option maxHeartbeats 1600000 in
theorem kcopyOf_any (sa:Option Addr)(len cap:Nat)(xs:List Int)(w:World)(h:Ints w sa len cap xs)(hl:len≤8) :
  Calls Tryz.prog 136 #[.slice sa len cap] w fun e w'=>e = .returned (.slice (some ⟨w.heap.size,0,none⟩) len len)∧w'=w.alloc (.cells (xs.map (Value.int .i64)).toArray 3):=by
 obtain ⟨i0,hi0,hz0,hz1,hz2⟩:=info_parts Tryz.infoInt
 have hcp:=run_copy_made (P:=Tryz.prog) w 25 25 3 3 1 Tryz.underlying25 (by rw [hi0];simp [hz1]) sa len len cap (#[.int .i64 0]) 3 (xs.map (Value.int .i64)) (by rw [List.length_map,h.hlen];omega) (fun h0=>ints_src h h0) (fun v hv=>by rw [List.mem_map] at hv;obtain ⟨a,_,rfl⟩:=hv;rfl)
 rw [Nat.mul_one] at hcp
 clear h
 go_enter Tryz.func136,Tryz.ntmps136
 go_wp2_with (at_make;refine wpList_make_exact _ rfl _ _ 25 rfl 3 i0 _ Tryz.underlying25 hi0 hz0 .i64 .i64 _ _ len rfl rfl (by simp) (by simp) (by rw [hz2];omega) (by unfold maxLen;omega) ?_;rw [hz1])
 go_ret
 exact ⟨rfl,rfl⟩
set_option maxHeartbeats 1600000 in
theorem kwaysOf_any (c:Cf)(s:Sl)(d:Int)(w:World)(h:CfgAt w c s) :
  Calls Tryz.prog 108 #[cfgV c s,.int .i64 d] w fun e w'=>e = .returned (.int .i64 (c.ways.count d:Nat))∧Below w.heap.size w w':=by
 have k0:=Kept.start w (cfgA c s) 43
 have hC:=fun w' (hb:Below w.heap.size w w')=>count_any s.wa s.wl s.wc c.ways d w' (h.ways.below hb (Nat.le_refl _))
 go_enter Tryz.func108,Tryz.ntmps108
 go_wp2_with fail
 refine (hC _ k0.below).mono ?_;rintro e w' ⟨rfl,rfl⟩
 go_wp2
 go_ret
 exact ⟨rfl,k0.below⟩
def copySl (s:Sl)(g:Nat):Sl:=⟨some ⟨g+2,0,none⟩,s.wl,s.wl,some ⟨g+3,0,none⟩,s.sl,s.sl,some ⟨g+4,0,none⟩,s.tl,s.tl⟩
structure CopyP (w wr:World)(c:Cf)(s:Sl)(j:Nat)(T:List Value)(B:Nat→Nat):Prop where
 cbox:Row wr w.heap.size (cfgL c ⟨some ⟨w.heap.size+2,0,none⟩,s.wl,s.wl,some ⟨w.heap.size+3,0,none⟩,s.sl,s.sl,s.ta,s.tl,s.tc⟩) 43
 res:Row wr (w.heap.size+1) [.int .i64 0,.int .i64 0,.int .i64 0,.int .i64 0,.int .i64 0,.int .i64 0,.int .i64 0,.slice none 0 0,.int .i64 0,.slice none 0 0,.slice none 0 0,.int .i64 0,.int .i64 0] 43
 ways:Row wr (w.heap.size+2) (c.ways.map (Value.int .i64)) 3
 slots:Row wr (w.heap.size+3) (c.slots.map (Value.int .i64)) 3
 row:Row wr (w.heap.size+4) T 25
 len:T.length=s.tl
 old:∀ i,j≤i→i<s.tl→T[i]? = some (.slice none 0 0)
 at':∀ i,i<j→T[i]? = some (.slice (some ⟨B i,0,none⟩) (c.turns.getD i []).length (c.turns.getD i []).length)∧Row wr (B i) ((c.turns.getD i []).map (Value.int .i64)) 3∧w.heap.size+5≤B i
 bel:Below w.heap.size w wr
theorem CopyP.more {w wr:World}{c:Cf}{s:Sl}{j:Nat}{T:List Value}{B:Nat→Nat}(h:CopyP w wr c s j T B)(hj:j<s.tl) :
  CopyP w ((wr.setCell ⟨w.heap.size+4,j,none⟩ (.slice (some ⟨wr.heap.size,0,none⟩) (c.turns.getD j []).length (c.turns.getD j []).length)).alloc (.cells ((c.turns.getD j []).map (Value.int .i64)).toArray 3)) c s (j+1) (T.set j (.slice (some ⟨wr.heap.size,0,none⟩) (c.turns.getD j []).length (c.turns.getD j []).length)) (up1 B j wr.heap.size):=by
 have l5:w.heap.size+5≤wr.heap.size:=by have:=h.row.lt;omega
 have hz:(wr.setCell ⟨w.heap.size+4,j,none⟩ (.slice (some ⟨wr.heap.size,0,none⟩) (c.turns.getD j []).length (c.turns.getD j []).length)).heap.size=wr.heap.size:=by simp [World.setCell]
 have n1:∀ {g A t},Row wr g A t→g≠w.heap.size+4→Row ((wr.setCell ⟨w.heap.size+4,j,none⟩ (.slice (some ⟨wr.heap.size,0,none⟩) (c.turns.getD j []).length (c.turns.getD j []).length)).alloc (.cells ((c.turns.getD j []).map (Value.int .i64)).toArray 3)) g A t:=fun hr hg=>(hr.setCellOther _ _ hg).alloc _
 refine ⟨n1 h.cbox (by omega),n1 h.res (by omega),n1 h.ways (by omega),n1 h.slots (by omega),(h.row.setCell j _).alloc _,by rw [List.length_set];exact h.len,fun i hi hi2=>?_,fun i hi=>?_,?_⟩
 ·
  rw [List.getElem?_set_ne (by omega)]
  exact h.old i (by omega) hi2
 ·
  by_cases e:i=j
  ·
   subst e
   simp only [up1,if_true]
   refine ⟨List.getElem?_set_self (by rw [h.len];exact hj),?_,by omega⟩
   have:=heap_alloc_new (wr.setCell ⟨w.heap.size+4,i,none⟩ (.slice (some ⟨wr.heap.size,0,none⟩) (c.turns.getD i []).length (c.turns.getD i []).length)) (.cells ((c.turns.getD i []).map (Value.int .i64)).toArray 3)
   rw [hz] at this
   exact this
  ·
   obtain ⟨a1,a2,a3⟩:=h.at' i (by omega)
   simp only [up1,e,if_false]
   exact ⟨by rw [List.getElem?_set_ne (Ne.symm e)];exact a1,n1 a2 (by omega),a3⟩
 · exact (h.bel.setCell (show w.heap.size≤w.heap.size+4 by omega) _).alloc (by rw [hz];omega) _
theorem row_ints {w:World}{g:Nat}{xs:List Int}(h:Row w g (xs.map (Value.int .i64)) 3)(hl:xs.length≤maxLen):Ints w (some ⟨g,0,none⟩) xs.length xs.length xs:=
 ⟨rfl,Nat.le_refl _,hl,(fun e=>by cases e),fun i hi=>⟨g,0,rfl,by
  rw [Nat.zero_add,h.cell,List.getElem?_map,List.getElem?_eq_getElem hi]
  simp [List.getD,hi]⟩⟩
theorem CopyP.done {w wr W:World}{c:Cf}{s:Sl}{T:List Value}{B:Nat→Nat}(h:CopyP w wr c s s.tl T B)(hl:c.ways.length=s.wl∧c.slots.length=s.sl∧c.turns.length=s.tl)(hm:c.ways.length≤8∧c.slots.length≤8∧c.turns.length≤3∧∀ i,i<s.tl→(c.turns.getD i []).length≤4)(hW:∀ g,w.heap.size+2≤g→W.heap[g]? = wr.heap[g]?)(hS:W.heap.size=wr.heap.size) :
  CfgAt W c (copySl s w.heap.size)∧∀ b,CfgB (copySl s w.heap.size) W b→w.heap.size≤b∧b<W.heap.size:=by
 have m8:8≤maxLen:=by unfold maxLen;omega
 have rW:∀ {g A t},Row wr g A t→w.heap.size+2≤g→Row W g A t:=fun hr hg=>hr.same (hW _ hg)
 have hrow:=rW h.row (by omega)
 refine ⟨⟨?_,?_,⟨hl.2.2,Nat.le_refl _,by show s.tl≤maxLen;omega,(fun e=>by cases e),fun i hi=>?_⟩⟩,fun b hb=>?_⟩
 ·
  have:=row_ints (rW h.ways (by omega)) (by omega)
  rw [hl.1] at this
  exact this
 ·
  have:=row_ints (rW h.slots (by omega)) (by omega)
  rw [hl.2.1] at this
  exact this
 ·
  obtain ⟨a1,a2,a3⟩:=h.at' i hi
  refine ⟨w.heap.size+4,0,some ⟨B i,0,none⟩,_,_,rfl,by rw [Nat.zero_add,hrow.cell];exact a1,row_ints (rW a2 (by omega)) (by have:=hm.2.2.2 i hi;omega)⟩
 ·
  rw [hS]
  rcases hb with ⟨off,e⟩|⟨off,e⟩|⟨off,e⟩|⟨i,tb,toff,off,il,ic,h1,h2,h3⟩
  ·
   simp only [copySl,Option.some.injEq,Addr.mk.injEq] at e
   have:=h.ways.lt
   omega
  ·
   simp only [copySl,Option.some.injEq,Addr.mk.injEq] at e
   have:=h.slots.lt
   omega
  ·
   simp only [copySl,Option.some.injEq,Addr.mk.injEq] at e
   have:=h.row.lt
   omega
  ·
   simp only [copySl,Option.some.injEq,Addr.mk.injEq] at h2
   obtain ⟨rfl,rfl,_⟩:=h2
   obtain ⟨a1,a2,a3⟩:=h.at' i h1
   rw [Nat.zero_add,hrow.cell,a1] at h3
   simp only [Option.some.injEq,Value.slice.injEq,Addr.mk.injEq] at h3
   have:=a2.lt
   omega
theorem made_at (v:Value){n i:Nat}(hi:i<n):(madeCells #[v] n).toList[i]? = some v:=by
 rw [Array.getElem?_toList]
 simp [madeCells,hi,Nat.mod_one]
abbrev zeroCfg:Array Value:=#[.int .i64 0,.int .i64 0,.int .i64 0,.int .i64 0,.int .i64 0,.int .i64 0,.int .i64 0,.slice none 0 0,.int .i64 0,.slice none 0 0,.slice none 0 0,.int .i64 0,.int .i64 0]
theorem CopyP.start (w:World)(c:Cf)(s:Sl):CopyP w (((((w.alloc (.cells (cfgA c ⟨some ⟨w.heap.size+2,0,none⟩,s.wl,s.wl,some ⟨w.heap.size+3,0,none⟩,s.sl,s.sl,s.ta,s.tl,s.tc⟩) 43)).alloc (.cells zeroCfg 43)).alloc (.cells (c.ways.map (Value.int .i64)).toArray 3)).alloc (.cells (c.slots.map (Value.int .i64)).toArray 3)).alloc (.cells (madeCells #[.slice none 0 0] s.tl) 25)) c s 0 (madeCells #[.slice none 0 0] s.tl).toList (fun _=>0):=by
 have hn:∀ (W:World) (A:List Value) (t:TypeId) (n:Nat),W.heap.size=n→Row (W.alloc (.cells A.toArray t)) n A t:=fun W A t n e=>by
  subst e
  exact heap_alloc_new W _
 refine ⟨((((hn w _ _ _ rfl).alloc _).alloc _).alloc _).alloc _,(((hn _ [.int .i64 0,.int .i64 0,.int .i64 0,.int .i64 0,.int .i64 0,.int .i64 0,.int .i64 0,.slice none 0 0,.int .i64 0,.slice none 0 0,.slice none 0 0,.int .i64 0,.int .i64 0] _ _ (by simp)).alloc _).alloc _).alloc _,((hn _ _ _ _ (by simp)).alloc _).alloc _,(hn _ _ _ _ (by simp)).alloc _,?_,by rw [Array.length_toList,made_size],fun i _ hi=>made_at _ hi,fun i hi=>by omega,(((((Below.refl _ _).alloc (Nat.le_refl _) _).alloc (by simp) _).alloc (by simp;omega) _).alloc (by simp;omega) _).alloc (by simp;omega) _⟩
 have:=hn ((((w.alloc (.cells (cfgA c ⟨some ⟨w.heap.size+2,0,none⟩,s.wl,s.wl,some ⟨w.heap.size+3,0,none⟩,s.sl,s.sl,s.ta,s.tl,s.tc⟩) 43)).alloc (.cells zeroCfg 43)).alloc (.cells (c.ways.map (Value.int .i64)).toArray 3)).alloc (.cells (c.slots.map (Value.int .i64)).toArray 3)) (madeCells #[.slice none 0 0] s.tl).toList 25 (w.heap.size+4) (by simp)
 rw [Array.toArray_toList] at this
 exact this
def finW (wr:World)(g:Nat)(c:Cf)(s:Sl):World:=((((((((((((((wr.setCell ⟨g,10,none⟩ (.slice (some ⟨g+1+1+1+1,0,none⟩) s.tl s.tl)).setCell ⟨g+1,0,none⟩ (.int .i64 c.cores)).setCell ⟨g+1,1,none⟩ (.int .i64 c.domains)).setCell ⟨g+1,2,none⟩ (.int .i64 c.line)).setCell ⟨g+1,3,none⟩ (.int .i64 c.priv)).setCell ⟨g+1,4,none⟩ (.int .i64 c.shared)).setCell ⟨g+1,5,none⟩ (.int .i64 c.near)).setCell ⟨g+1,6,none⟩ (.int .i64 c.sets)).setCell ⟨g+1,7,none⟩ (.slice (some ⟨g+2,0,none⟩) s.wl s.wl)).setCell ⟨g+1,8,none⟩ (.int .i64 c.slot)).setCell ⟨g+1,9,none⟩ (.slice (some ⟨g+3,0,none⟩) s.sl s.sl)).setCell ⟨g+1,10,none⟩ (.slice (some ⟨g+1+1+1+1,0,none⟩) s.tl s.tl)).setCell ⟨g+1,11,none⟩ (.int .i64 c.quantum)).setCell ⟨g+1,12,none⟩ (.int .i64 c.flush))
theorem finW_size (wr:World)(g:Nat)(c:Cf)(s:Sl):(finW wr g c s).heap.size=wr.heap.size:=by
 unfold finW
 simp only [World.size_setCell]
theorem finW_heap (wr:World)(g:Nat)(c:Cf)(s:Sl)(k:Nat)(h1:k≠g)(h2:k≠g+1):(finW wr g c s).heap[k]? = wr.heap[k]? := by
 unfold finW
 rw [Below.heap_setCell _ _ _ _ h2,Below.heap_setCell _ _ _ _ h2,Below.heap_setCell _ _ _ _ h2,Below.heap_setCell _ _ _ _ h2,Below.heap_setCell _ _ _ _ h2,Below.heap_setCell _ _ _ _ h2,Below.heap_setCell _ _ _ _ h2,Below.heap_setCell _ _ _ _ h2,Below.heap_setCell _ _ _ _ h2,Below.heap_setCell _ _ _ _ h2,Below.heap_setCell _ _ _ _ h2,Below.heap_setCell _ _ _ _ h2,Below.heap_setCell _ _ _ _ h2,Below.heap_setCell _ _ _ _ h1]
theorem finW_row {wr:World}{g:Nat}{A:List Value}(c:Cf)(s:Sl)(h:Row wr (g+1) A 43)(hl:A.length=13):Row (finW wr g c s) (g+1) (cfgL c (copySl s g)) 43:=by
 have h1:=(((((((((((((h.setCellOther (g:=g) 10 (.slice (some ⟨g+1+1+1+1,0,none⟩) s.tl s.tl) (by omega)).setCell 0 (.int .i64 c.cores)).setCell 1 (.int .i64 c.domains)).setCell 2 (.int .i64 c.line)).setCell 3 (.int .i64 c.priv)).setCell 4 (.int .i64 c.shared)).setCell 5 (.int .i64 c.near)).setCell 6 (.int .i64 c.sets)).setCell 7 (.slice (some ⟨g+2,0,none⟩) s.wl s.wl)).setCell 8 (.int .i64 c.slot)).setCell 9 (.slice (some ⟨g+3,0,none⟩) s.sl s.sl)).setCell 10 (.slice (some ⟨g+1+1+1+1,0,none⟩) s.tl s.tl)).setCell 11 (.int .i64 c.quantum)).setCell 12 (.int .i64 c.flush)
 have hA:∃ a0 a1 a2 a3 a4 a5 a6 a7 a8 a9 a10 a11 a12,A=[a0,a1,a2,a3,a4,a5,a6,a7,a8,a9,a10,a11,a12]:=by
  match A,hl with
  | [a0,a1,a2,a3,a4,a5,a6,a7,a8,a9,a10,a11,a12],_=>exact ⟨a0,a1,a2,a3,a4,a5,a6,a7,a8,a9,a10,a11,a12,rfl⟩
 obtain ⟨a0,a1,a2,a3,a4,a5,a6,a7,a8,a9,a10,a11,a12,rfl⟩:=hA
 exact h1
structure YLoc where
 s:Sl
 e:ELoc
 n:NLoc
 dm:Nat
 dc:Nat
 P:Nat→Nat
 f:Nat→FLoc
def YLoc.loc (Y:YLoc)(g ck:Nat)(lab:Nat→Option (Nat × Nat)):XLoc:=
 ⟨g,Y.s,Y.e,Y.n,Y.dm,Y.dc,ck,Y.P,fun _ _=>none,Y.f,fun _=>none,fun _=>0,fun _=>0,fun _=>none,fun _=>0,fun _=>0,lab⟩
structure Parts (w:World)(N:Cn)(Y:YLoc)(a0 a1 a2 a3:Nat)(lo hi:Nat→Nat):Prop where
 cfg:CfgAt w N.c Y.s
 cfgr:∀ b,CfgB Y.s w b→a0≤b∧b<a1
 mem:MemM w N.nd N.pv N.sn Y.e (fun _ _=>0) (fun _=>0)
 memr:a1≤Y.e.r∧Y.e.r<a2∧∀ b,Y.e.own N.nd b→a1≤b∧b<a2∧b≠Y.e.r
 near:NearM w N.nc N.nn Y.n (fun _ _=>cpE)
 nearr:a2≤Y.n.r∧Y.n.r<a3∧∀ b,Y.n.own N.nc b→a2≤b∧b<a3∧b≠Y.n.r
 wks:Cells w a3 (N.nc*3) 182 (fun i=>wkV ⟨false,0,0⟩ (i%3))
 dom:Cells w Y.dm (N.nd*4) 144 (fun i=>domV N (Y.loc 0 a3 fun _=>none) (i / 4) (i%4))
 dcap:N.nd≤Y.dc∧Y.dc≤maxLen
 dmr:a3<Y.dm∧∀ d,d<N.nd→¬(lo d≤Y.dm∧Y.dm<hi d)
 prg:∀ d,d<N.nd→Cells w (Y.P d) (N.nc*2) 161 (fun i=>if i%2=0 then .slice none 0 0 else .int .i64 0)
 far:∀ d,d<N.nd→FarM w N.ns (N.wn d) (Y.f d) (fun _ _=>bkE) (fun _=>[])
 fta:∀ d,d<N.nd→∀ s,(Y.f d).ta s=none
 rng:∀ d,d<N.nd→a3<lo d∧hi d≤w.heap.size∧lo d≤Y.P d∧Y.P d<hi d∧∀ b,(Y.f d).own N.ns b→lo d≤b∧b<hi d∧b≠Y.P d
 inc:∀ d e,d<e→e<N.nd→hi d≤lo e
 ord:a0≤a1∧a1≤a2∧a2≤a3
def domLab (P lo hi:Nat→Nat)(b:Nat):Nat→Option (Nat × Nat)
 | 0=>none
 | n+1=>if b=P n then some (8,n) else if lo n≤b∧b<hi n then some (10,n) else domLab P lo hi b n
def labOf (N:Cn)(Y:YLoc)(g a0 a1 a2 a3:Nat)(lo hi:Nat→Nat)(b:Nat):Option (Nat × Nat):=
 if b=g then some (0,0) else if a0≤b∧b<a1 then some (1,0) else if b=Y.e.r then some (2,0) else if a1≤b∧b<a2 then some (3,0)
 else if b=Y.n.r then some (4,0) else if a2≤b∧b<a3 then some (5,0) else if b=a3 then some (7,0) else if b=Y.dm then some (6,0) else domLab Y.P lo hi b N.nd
theorem domLab_at {P lo hi:Nat→Nat}{b d:Nat}:∀ {n:Nat},d<n→(∀ e,e<n→lo e≤P e∧P e<hi e)→(∀ e f,e<f→f<n→hi e≤lo f)→lo d≤b→b<hi d→domLab P lo hi b n=if b=P d then some (8,d) else some (10,d)
 | 0,h,_,_,_,_=>by omega
 | n+1,h,hP,hi',h1,h2=>by
  unfold domLab
  by_cases e:d=n
  ·
   subst e
   by_cases c:b=P d
   · rw [if_pos c,if_pos c]
   · rw [if_neg c,if_neg c,if_pos ⟨h1,h2⟩]
  ·
   have hdn:=hi' d n (by omega) (by omega)
   have hPn:=hP n (by omega)
   rw [if_neg (by omega),if_neg (by omega)]
   exact domLab_at (by omega) (fun e he=>hP e (by omega)) (fun e f h3 h4=>hi' e f h3 (by omega)) h1 h2
theorem domLab_lt {P lo hi:Nat→Nat}{b m:Nat}:∀ {n:Nat},(∀ e,e<n→P e<hi e∧hi e≤m)→domLab P lo hi b n≠none→b<m
 | 0,_,h=>by simp [domLab] at h
 | n+1,hP,h=>by
  have h1:=hP n (by omega)
  unfold domLab at h
  split at h
  · omega
  ·
   split at h
   · omega
   · exact domLab_lt (fun e he=>hP e (by omega)) h
theorem Parts.mach {w:World}{N:Cn}{Y:YLoc}{a0 a1 a2 a3:Nat}{lo hi:Nat→Nat}(h:Parts w N Y a0 a1 a2 a3 lo hi)(hN:CnOk N) :
  ∃ X,X.g=w.heap.size∧MachM (w.alloc (.cells (mchL N (Y.loc w.heap.size a3 fun _=>none) 0).toArray 100)) N X (mkM (fun _ _=>[]) (fun _ _=>0) (fun _=>0))∧∀ b,X.mine b→a0≤b:=by
 have hb:Below w.heap.size w (w.alloc (.cells (mchL N (Y.loc w.heap.size a3 fun _=>none) 0).toArray 100)):=(Below.refl _ _).alloc (Nat.le_refl _) _
 have hck:=h.wks.lt
 have hdm:=h.dom.lt
 obtain ⟨o1,o2,o3⟩:=h.ord
 have hrow:Row (w.alloc (.cells (mchL N (Y.loc w.heap.size a3 fun _=>none) 0).toArray 100)) w.heap.size (mchL N (Y.loc w.heap.size a3 fun _=>none) 0) 100:=heap_alloc_new w _
 have hcf:=h.cfg.same (w':=w.alloc (.cells (mchL N (Y.loc w.heap.size a3 fun _=>none) 0).toArray 100)) (fun b hb'=>hb.block b (by have:=(h.cfgr b hb').2;omega))
 have hlt:∀ b,labOf N Y w.heap.size a0 a1 a2 a3 lo hi b≠none→b≤w.heap.size∧a0≤b:=fun b hl=>by
  have m1:=h.memr
  have m2:=h.nearr
  have m3:=h.dmr.1
  unfold labOf at hl
  split at hl
  · omega
  split at hl
  · omega
  split at hl
  · omega
  split at hl
  · omega
  split at hl
  · omega
  split at hl
  · omega
  split at hl
  · omega
  split at hl
  · omega
  ·
   have h1:=domLab_lt (m:=w.heap.size) (fun e he=>⟨(h.rng e he).2.2.2.1,(h.rng e he).2.1⟩) hl
   refine ⟨by omega,?_⟩
   have:∀ n,n≤N.nd→domLab Y.P lo hi b n≠none→a0≤b:=fun n=>by
    induction n with
    | zero=>intro _ hh;simp [domLab] at hh
    | succ n ih=>
     intro hn hh
     have h2:=h.rng n (by omega)
     unfold domLab at hh
     split at hh
     · omega
     ·
      split at hh
      · omega
      · exact ih (by omega) hh
   exact this N.nd (Nat.le_refl _) hl
 have hlab:∀ d,d<N.nd→∀ b,lo d≤b→b<hi d→labOf N Y w.heap.size a0 a1 a2 a3 lo hi b=if b=Y.P d then some (8,d) else some (10,d):=fun d hd b h1 h2=>by
  have h3:=h.rng d hd
  have m1:=h.memr
  have m2:=h.nearr
  have m3:=h.dmr.2 d hd
  unfold labOf
  rw [if_neg (by omega),if_neg (by omega),if_neg (by omega),if_neg (by omega),if_neg (by omega),if_neg (by omega),if_neg (by omega),if_neg (by omega)]
  exact domLab_at hd (fun e he=>⟨(h.rng e he).2.2.1,(h.rng e he).2.2.2.1⟩) h.inc h1 h2
 refine ⟨Y.loc w.heap.size a3 (labOf N Y w.heap.size a0 a1 a2 a3 lo hi),rfl,⟨hN.nok,hN.right,Int.le_refl _,by show (0:Int)≤10000;omega,hrow,hcf.1,h.mem.below hb (Nat.le_refl _),h.near.below hb (Nat.le_refl _),h.dom.below hb (Nat.le_refl _),h.dcap,fun d hd=>?_,fun d k _ _=>Or.inl ⟨rfl,rfl⟩,fun d hd=>(h.far d hd).below hb (Nat.le_refl _),fun d hd=>⟨rfl,Or.inl ⟨rfl,rfl,rfl⟩⟩,fun d hd=>⟨rfl,by simp [World.ownsRow,YLoc.loc,mkM]⟩,h.wks.below hb (Nat.le_refl _),?_⟩,fun b hb'=>(hlt b hb').2⟩
 ·
  refine ((h.prg d hd).below hb (Nat.le_refl _)).congr fun i _=>?_
  unfold prgV
  by_cases e:i%2=0 <;> simp [e,YLoc.loc,mkM]
 ·
  have m1:=h.memr
  have m2:=h.nearr
  have m3:=h.dmr.1
  refine ⟨fun b hl=>?_,?_,fun b hb'=>?_,?_,fun b hb'=>?_,?_,fun b hb'=>?_,?_,?_,fun d hd=>?_,fun d k _ _ b off e=>?_,fun d hd b hb'=>?_,fun d hd b hb'=>?_,fun d _ b off e=>?_,fun d _ b off e=>?_⟩
  ·
   rw [World.size_alloc]
   have:=(hlt b hl).1
   omega
  ·
   show labOf N Y w.heap.size a0 a1 a2 a3 lo hi w.heap.size=_
   unfold labOf;rw [if_pos rfl]
  ·
   have h1:=h.cfgr b (hcf.2 b hb')
   show labOf N Y w.heap.size a0 a1 a2 a3 lo hi b=_
   unfold labOf;rw [if_neg (by omega),if_pos h1]
  ·
   show labOf N Y w.heap.size a0 a1 a2 a3 lo hi Y.e.r=_
   unfold labOf;rw [if_neg (by omega),if_neg (by omega),if_pos rfl]
  ·
   have h1:=m1.2.2 b hb'
   show labOf N Y w.heap.size a0 a1 a2 a3 lo hi b=_
   unfold labOf;rw [if_neg (by omega),if_neg (by omega),if_neg h1.2.2,if_pos ⟨h1.1,h1.2.1⟩]
  ·
   show labOf N Y w.heap.size a0 a1 a2 a3 lo hi Y.n.r=_
   unfold labOf;rw [if_neg (by omega),if_neg (by omega),if_neg (by omega),if_neg (by omega),if_pos rfl]
  ·
   have h1:=m2.2.2 b hb'
   show labOf N Y w.heap.size a0 a1 a2 a3 lo hi b=_
   unfold labOf;rw [if_neg (by omega),if_neg (by omega),if_neg (by omega),if_neg (by omega),if_neg h1.2.2,if_pos ⟨h1.1,h1.2.1⟩]
  ·
   show labOf N Y w.heap.size a0 a1 a2 a3 lo hi Y.dm=_
   unfold labOf;rw [if_neg (by omega),if_neg (by omega),if_neg (by omega),if_neg (by omega),if_neg (by omega),if_neg (by omega),if_neg (by omega),if_pos rfl]
  ·
   show labOf N Y w.heap.size a0 a1 a2 a3 lo hi a3=_
   unfold labOf;rw [if_neg (by omega),if_neg (by omega),if_neg (by omega),if_neg (by omega),if_neg (by omega),if_neg (by omega),if_pos rfl]
  ·
   have h1:=h.rng d hd
   show labOf N Y w.heap.size a0 a1 a2 a3 lo hi (Y.P d)=_
   rw [hlab d hd _ h1.2.2.1 h1.2.2.2.1,if_pos rfl]
  · cases e
  ·
   have h1:=(h.rng d hd).2.2.2.2 b hb'
   show labOf N Y w.heap.size a0 a1 a2 a3 lo hi b=_
   rw [hlab d hd _ h1.1 h1.2.1,if_neg h1.2.2]
  ·
   obtain ⟨s',off,_,h2⟩:=hb'
   have h3:=h.fta d hd s'
   have h4:(Y.f d).ta s'=some ⟨b,off,none⟩:=h2
   rw [h3] at h4
   cases h4
  · cases e
  · cases e
def markL (mk:List Value):Nat→List Value
 | 0=>[]
 | l+1=>mk++markL mk l
theorem markL_at (mk:List Value)(z:Nat)(hz:mk.length=z):∀ (l q r:Nat),q<l→r<z→(markL mk l)[q*z+r]? = mk[r]?
 | 0,q,r,hq,_=>by omega
 | l+1,0,r,_,hr=>by
  rw [Nat.zero_mul,Nat.zero_add,markL,List.getElem?_append_left (by omega)]
 | l+1,q+1,r,hq,hr=>by
  rw [markL,List.getElem?_append_right (by rw [hz,Nat.succ_mul];omega),hz,show (q+1)*z+r-z=q*z+r by rw [Nat.succ_mul];omega]
  exact markL_at mk z hz l q r (by omega) hr
theorem markL_flat {α:Type}(f:α→List Value)(x:α):∀ l:Nat,(List.replicate l x).flatMap f=markL (f x) l
 | 0=>rfl
 | l+1=>by rw [List.replicate_succ,List.flatMap_cons,markL_flat f x l,markL]
structure Outs (w:World)(base:Nat)(rt et:TypeId)(mark:Nat→List Value)(v:Value)(n:Nat)(a:Nat→Option Addr)(l:Nat→Nat):Prop where
 row:w.ownsRow base rt 1 v n ((List.range n).map fun i=>.slice (a i) (l i) (l i))
 bnd:∀ i,i<n→l i≤9223372036854775807
 sat:∀ i,i<n→l i≠0→∃ g,a i=some ⟨g,0,none⟩∧base≤g∧Row w g (markL (mark i) (l i)) et
def OB (v:Value)(n:Nat)(a:Nat→Option Addr)(l:Nat→Nat)(b:Nat):Prop:=v.ownBlock=some b∨∃ i,i<n∧l i≠0∧a i=some ⟨b,0,none⟩
theorem Outs.nil (w:World)(base:Nat)(rt et:TypeId)(mark:Nat→List Value)(a:Nat→Option Addr)(l:Nat→Nat):Outs w base rt et mark (.slice none 0 0) 0 a l:=
 ⟨World.ownsRow_nil _ _ _ _,fun i hi=>by omega,fun i hi=>by omega⟩
theorem OB.nil {a:Nat→Option Addr}{l:Nat→Nat}{b:Nat}:¬OB (.slice none 0 0) 0 a l b:=by
 rintro (h|⟨i,hi,_⟩)
 · simp [Value.ownBlock] at h
 · omega
theorem Outs.same {w w':World}{base:Nat}{rt et:TypeId}{mark:Nat→List Value}{v:Value}{n:Nat}{a:Nat→Option Addr}{l:Nat→Nat}(h:Outs w base rt et mark v n a l)(hs:∀ b,OB v n a l b→w'.heap[b]? = w.heap[b]?):Outs w' base rt et mark v n a l:=
 ⟨owns_same h.row (fun g hg=>hs g (Or.inl hg)),h.bnd,fun i hi hl=>by
  obtain ⟨g,e,hb,hr⟩:=h.sat i hi hl
  exact ⟨g,e,hb,hr.same (hs g (Or.inr ⟨i,hi,hl,e⟩))⟩⟩
theorem Outs.lt {w:World}{base:Nat}{rt et:TypeId}{mark:Nat→List Value}{v:Value}{n:Nat}{a:Nat→Option Addr}{l:Nat→Nat}(h:Outs w base rt et mark v n a l){b:Nat}(hb:OB v n a l b):base≤b∧b<w.heap.size:=by
 rcases hb with hb|⟨i,hi,hl,e⟩
 · exact ⟨(owns_lt h.row b hb).2,(owns_lt h.row b hb).1⟩
 ·
  obtain ⟨g,e',hg,hr⟩:=h.sat i hi hl
  rw [e] at e'
  simp only [Option.some.injEq,Addr.mk.injEq,and_true] at e'
  subst e'
  exact ⟨hg,hr.lt⟩
theorem Outs.below {w w':World}{base:Nat}{rt et:TypeId}{mark:Nat→List Value}{v:Value}{n:Nat}{a:Nat→Option Addr}{l:Nat→Nat}(h:Outs w base rt et mark v n a l)(hb:Below w.heap.size w w'):Outs w' base rt et mark v n a l:=
 h.same (fun b q=>hb.block b (h.lt q).2)
theorem Outs.not {w:World}{base:Nat}{rt et:TypeId}{mark:Nat→List Value}{v:Value}{n:Nat}{a:Nat→Option Addr}{l:Nat→Nat}(h:Outs w base rt et mark v n a l){g:Nat}{A:List Value}{t:TypeId}(hr:Row w g A t)(h1:t≠rt)(h2:t≠et):¬OB v n a l g:=by
 rintro (hb|⟨i,hi,hl,e⟩)
 · exact own_ne h.row hr h1 hb
 ·
  obtain ⟨g',e',hg,hr'⟩:=h.sat i hi hl
  rw [e] at e'
  simp only [Option.some.injEq,Addr.mk.injEq,and_true] at e'
  subst e'
  exact h2 (row_type hr hr')
theorem Outs.more {w wX w8:World}{base gg cap:Nat}{rt et:TypeId}{mark:Nat→List Value}{v:Value}{n:Nat}{a:Nat→Option Addr}{l:Nat→Nat}(h:Outs w base rt et mark v n a l)(hne:et≠rt)(hbX:Below w.heap.size w wX)(hgrow:wX.grownBy w8 v.ownBlock){a':Option Addr}{l':Nat}
  (hown:w8.ownsRow base rt 1 (.slice (some ⟨gg,0,none⟩) (n+1) cap) (n+1) (((List.range n).map fun i=>.slice (a i) (l i) (l i))++[.slice a' l' l'])) (hl:l'≤9223372036854775807) (hnew:l'≠0→∃ g,a'=some ⟨g,0,none⟩∧base≤g∧Row w g (markL (mark n) l') et) :
  Outs w8 base rt et mark (.slice (some ⟨gg,0,none⟩) (n+1) cap) (n+1) (upd a n a') (upd l n l'):=by
 have sX:=hbX.size
 have keep:∀ {g A},Row w g A et→Row w8 g A et:=fun hr=>by
  refine hr.same ((hgrow.block _ (Nat.lt_of_lt_of_le hr.lt sX) (fun q=>own_ne h.row hr hne q.symm)).trans (hbX.block _ hr.lt))
 refine ⟨?_,fun i hi=>?_,fun i hi hli=>?_⟩
 ·
  have e:((List.range (n+1)).map fun i=>Value.slice (upd a n a' i) (upd l n l' i) (upd l n l' i))=((List.range n).map fun i=>.slice (a i) (l i) (l i))++[.slice a' l' l']:=by
   rw [List.range_succ,List.map_append]
   congr 1
   ·
    apply List.map_congr_left
    intro i hi
    have:=List.mem_range.1 hi
    rw [upd_ne _ _ (by omega),upd_ne _ _ (by omega)]
   · simp [upd_at]
  rw [e]
  exact hown
 ·
  by_cases q:i=n
  · subst q;rw [upd_at];exact hl
  · rw [upd_ne _ _ q];exact h.bnd i (by omega)
 ·
  by_cases q:i=n
  ·
   subst q
   rw [upd_at] at hli
   rw [upd_at,upd_at]
   obtain ⟨g,e1,e2,e3⟩:=hnew hli
   exact ⟨g,e1,e2,keep e3⟩
  ·
   rw [upd_ne _ _ q] at hli
   rw [upd_ne _ _ q,upd_ne _ _ q]
   obtain ⟨g,e1,e2,e3⟩:=h.sat i (by omega) hli
   exact ⟨g,e1,e2,keep e3⟩
theorem OB.more {v:Value}{n gg cap H:Nat}{a:Nat→Option Addr}{l:Nat→Nat}{a':Option Addr}{l' b:Nat}(hat:v.ownBlock=some gg∨H≤gg)(hnew:∀ g,l'≠0→a'=some ⟨g,0,none⟩→H≤g)(hb:b<H)(h:OB (.slice (some ⟨gg,0,none⟩) (n+1) cap) (n+1) (upd a n a') (upd l n l') b):OB v n a l b:=by
 rcases h with q|⟨i,hi,hl,e⟩
 ·
  have:gg=b:=by simpa [Value.ownBlock] using q
  subst this
  rcases hat with r|r
  · exact Or.inl r
  · omega
 ·
  by_cases q:i=n
  ·
   subst q
   rw [upd_at] at hl e
   have:=hnew b hl e
   omega
  ·
   rw [upd_ne _ _ q] at hl e
   exact Or.inr ⟨i,by omega,hl,e⟩
theorem MI.out {W w w':World}{o:Own}{e p b e' p' b':Value}{ts:List Int}{os:List (Int × Int × Int)}{zone:Nat→Option Nat}{n:Nat}{X:Nat→XLoc}{m:Nat→Mh}{L:Nat→RLoc}{M:Nat→RDat}{ma:Option Addr}{mc:Nat}(h:MI W w o e p b ts os zone n X m L M ma mc){K:Nat→Prop}
  (hr:Row w' W.heap.size (ownL o (.slice ma n mc) e' p' b') 34) (hT:Touch (fun g=>g=W.heap.size∨K g) w w') (hK:∀ g,K g→W.heap.size≤g∧¬MZ W.heap.size o zone (.slice ma n mc) g):MI W w' o e' p' b' ts os zone n X m L M ma mc:=by
 have keep:∀ g,MZ W.heap.size o zone (.slice ma n mc) g→g≠W.heap.size→w'.heap[g]? = w.heap[g]? := fun g hz hne=>hT.block g (h.lt hz) (fun q=>by
  rcases q with q|q
  · exact hne q
  · exact (hK g q).2 hz)
 refine ⟨⟨hr,h.ws.hb,owns_same h.ws.tou (fun g hg=>keep g (Or.inr (Or.inl (Or.inr (Or.inl hg)))) (fun q=>by subst q;exact own_ne h.ws.tou h.ws.row (by decide) hg)),owns_same h.ws.ops (fun g hg=>keep g (Or.inr (Or.inl (Or.inr (Or.inr hg)))) (fun q=>by subst q;exact own_ne h.ws.ops h.ws.row (by decide) hg))⟩,h.ms.keep hT.size (fun g hz=>keep g (Or.inl hz) (fun q=>hz (h.zu g (Or.inl q)))),owns_same h.own (fun g hg=>keep g (Or.inr (Or.inr hg)) (fun q=>by subst q;exact own_ne h.own h.ws.row (by decide) hg)),h.zu,h.zm,h.bel.trans (hT.below _ h.bel.size (fun g q=>?_))⟩
 rcases q with q|q
 · omega
 · exact (hK g q).1
theorem Outs.done {W w wv wX w8:World}{o:Own}{e p b v:Value}{ts:List Int}{os:List (Int × Int × Int)}{zone:Nat→Option Nat}{n:Nat}{X:Nat→XLoc}{m:Nat→Mh}{L:Nat→RLoc}{M:Nat→RDat}{ma:Option Addr}{mc:Nat}(h:MI W w o e p b ts os zone n X m L M ma mc)
  {rt et:TypeId} {mark:Nat→List Value} {en gg cap f:Nat} {a:Nat→Option Addr} {l:Nat→Nat} (hE:Outs w W.heap.size rt et mark v en a l) (hne:et≠rt) (hw1:34≠rt) (hw2:34≠et)
  (hv:Below w.heap.size w wv) {a':Option Addr} {l':Nat} (hl:l'≤9223372036854775807) (hnew:l'≠0→∃ g,a'=some ⟨g,0,none⟩∧w.heap.size≤g∧Row wv g (markL (mark en) l') et) (hbX:Below wv.heap.size wv wX) (hgrow:wX.grownBy w8 v.ownBlock)
  (hown:w8.ownsRow W.heap.size rt 1 (.slice (some ⟨gg,0,none⟩) (en+1) cap) (en+1) (((List.range en).map fun i=>.slice (a i) (l i) (l i))++[.slice a' l' l'])) (hat:v.ownBlock=some gg∨w.heap.size≤gg) :
  Row (w8.setCell ⟨W.heap.size,f,none⟩ (.slice (some ⟨gg,0,none⟩) (en+1) cap)) W.heap.size ((ownL o (.slice ma n mc) e p b).set f (.slice (some ⟨gg,0,none⟩) (en+1) cap)) 34∧
  Outs (w8.setCell ⟨W.heap.size,f,none⟩ (.slice (some ⟨gg,0,none⟩) (en+1) cap)) W.heap.size rt et mark (.slice (some ⟨gg,0,none⟩) (en+1) cap) (en+1) (upd a en a') (upd l en l')∧
  Touch (fun g=>g=W.heap.size∨v.ownBlock=some g) w (w8.setCell ⟨W.heap.size,f,none⟩ (.slice (some ⟨gg,0,none⟩) (en+1) cap))∧
  ∀ g,g<w.heap.size→OB (.slice (some ⟨gg,0,none⟩) (en+1) cap) (en+1) (upd a en a') (upd l en l') g→OB v en a l g:=by
 have sv:=hv.size
 have sX:=hbX.size
 have s8:=hgrow.size
 have hWw:=h.bel.size
 have Ev:Outs wv W.heap.size rt et mark v en a l:=hE.same (fun g hg=>hv.block g (hE.lt hg).2)
 have rw0:=h.ws.row
 have rv:Row wv W.heap.size (ownL o (.slice ma n mc) e p b) 34:=rw0.same (hv.block _ rw0.lt)
 have rX:Row wX W.heap.size (ownL o (.slice ma n mc) e p b) 34:=rv.same (hbX.block _ rv.lt)
 have ag:v.ownBlock≠some W.heap.size:=own_ne hE.row rw0 hw1
 have r8:Row w8 W.heap.size (ownL o (.slice ma n mc) e p b) 34:=rX.same (hgrow.block _ rX.lt (fun q=>ag q.symm))
 have E8:=Ev.more hne hbX hgrow hown hl (fun q=>by
  obtain ⟨g,e1,e2,e3⟩:=hnew q
  exact ⟨g,e1,by omega,e3⟩)
 refine ⟨r8.setCell f _,E8.same (fun g hg=>Below.heap_setCell _ _ _ _ (fun q=>?_)),⟨?_,?_,?_,?_,fun g hg hf=>?_⟩,fun g hg hq=>OB.more (H:=w.heap.size) hat (fun g2 q1 q2=>?_) hg hq⟩
 ·
  have q':g=W.heap.size:=q
  subst q'
  exact E8.not r8 hw1 hw2 hg
 · exact hgrow.os.trans (hbX.os.trans hv.os)
 · exact hgrow.tape.trans (hbX.tape.trans hv.tape)
 · exact hgrow.output.trans (hbX.output.trans hv.output)
 ·
  show w.heap.size≤(w8.setCell ⟨W.heap.size,f,none⟩ (.slice (some ⟨gg,0,none⟩) (en+1) cap)).heap.size
  have:(w8.setCell ⟨W.heap.size,f,none⟩ (.slice (some ⟨gg,0,none⟩) (en+1) cap)).heap.size=w8.heap.size:=by simp [World.setCell]
  omega
 · rw [Below.heap_setCell _ _ _ _ (fun q=>hf (Or.inl q)),hgrow.block g (by omega) (fun q=>hf (Or.inr q.symm)),hbX.block g (by omega),hv.block g hg]
 ·
  obtain ⟨g3,e1,e2,_⟩:=hnew q1
  rw [q2] at e1
  simp only [Option.some.injEq,Addr.mk.injEq,and_true] at e1
  omega
end Go.Proofs.YtehheaedbnfidaaGreat
namespace Go.Proofs.YtehheaedbnfidaaGreat
theorem rworks_any (w0:World)(base B:Nat)(X:SLoc)(L:RLoc)(M:RDat)(S:So)(k:Nat)(t:Int)(w:World)(h:Ctx w0 w base X L M S)(hs:SoOk M.toM X.d S B)(hB:B≤89000)(hk:k<M.c.cores.toNat)(t0:0≤t)(t1:t≤10000) :
  Calls Tryz.prog 95 #[.pointer (some ⟨X.gs,0,none⟩),.int .i64 k,.int .i64 t] w fun e w'=>e = .returned (.tuple #[])∧∃ X',X'.gs=X.gs∧X'.d=X.d∧Ctx w0 w' base X' L M (So.works M.toM X.d k S t):=by
 unfold So.works
 by_cases c1:S.how.getD k 0=2∧t=S.began.getD k 0+2
 ·
  rw [if_pos c1]
  exact rworks_fail w0 base B X L M S k t w h hs hB hk t0 t1 c1.1 c1.2
 ·
  rw [if_neg c1]
  by_cases c2:S.how.getD k 0≠0∨t<S.free.getD k 0∨((progF M.toM X.d k).length:Int)≤S.next.getD k 0∨openB M.toM.c k X.d t=false
  ·
   rw [if_pos c2]
   refine (rworks_idle w0 base B X L M S k t w h hs hk t0 t1 ?_).mono ?_
   ·
    by_cases c3:S.how.getD k 0=0
    ·
     refine Or.inr ⟨c3,?_⟩
     rcases c2 with c|c
     · exact absurd c3 c
     · exact c
    ·
     refine Or.inl ⟨c3,?_⟩
     by_cases c4:S.how.getD k 0=2
     · exact Or.inr (fun e=>c1 ⟨c4,e⟩)
     · exact Or.inl c4
   ·
    rintro e w' ⟨h1,h2⟩
    exact ⟨h1,X,rfl,rfl,h2⟩
  ·
   rw [if_neg c2]
   have d1:S.how.getD k 0=0:=Classical.byContradiction fun e=>c2 (Or.inl e)
   have d2:¬t<S.free.getD k 0:=fun e=>c2 (Or.inr (Or.inl e))
   have d3:S.next.getD k 0<(progF M.toM X.d k).length:=Int.not_le.1 fun e=>c2 (Or.inr (Or.inr (Or.inl e)))
   have d4:openB M.c k X.d t=true:=by
    cases ho:openB M.c k X.d t with
    | true=>rfl
    | false=>exact absurd (Or.inr (Or.inr (Or.inr ho))) c2
   by_cases f0:faultF M.c (opAt M.toM X.d k S)=0
   ·
    by_cases f1:(stateF M.c k ((opAt M.toM X.d k S).2.1 / M.c.line) t false S.log=0∨((opAt M.toM X.d k S).1=1∧stateF M.c k ((opAt M.toM X.d k S).2.1 / M.c.line) t false S.log=1))
    · exact rworks_wait w0 base B X L M S k t w h hs hB hk t0 t1 d1 d2 d3 d4 f0 f1
    ·
     by_cases f2:(opAt M.toM X.d k S).1=1
     · exact rworks_store w0 base B X L M S k t w h hs hB hk t0 t1 d1 d2 d3 d4 f0 f1 f2
     · exact rworks_load w0 base B X L M S k t w h hs hB hk t0 t1 d1 d2 d3 d4 f0 f1 f2
   · exact rworks_fault w0 base B X L M S k t w h hs hB hk t0 t1 d1 d2 d3 d4 f0
theorem service_len (M:MDat)(d:Nat)(S:So)(t:Int):(So.service M d S t).log.length≤S.log.length+2∧(So.service M d S t).evs.length≤S.evs.length+2:=by
 unfold So.service So.serve
 repeat' split
 all_goals simp [So.told,So.done]
 all_goals (try (repeat' split) <;> simp <;> omega)
theorem works_len (M:MDat)(d k:Nat)(S:So)(t:Int):(So.works M d k S t).log.length≤S.log.length+1∧(So.works M d k S t).evs.length≤S.evs.length+1:=by
 unfold So.works So.begin
 dsimp only
 repeat' split
 all_goals simp [So.told,So.done]
theorem worksAll_len (M:MDat)(d:Nat)(t:Int):∀ (n j:Nat) (S:So),(So.worksAll M d t n j S).log.length≤S.log.length+n∧(So.worksAll M d t n j S).evs.length≤S.evs.length+n
 | 0,_,S=>⟨Nat.le_refl _,Nat.le_refl _⟩
 | n+1,j,S=>by
  have h1:=worksAll_len M d t n (j+1) (So.works M d j S t)
  have h2:=works_len M d j S t
  unfold So.worksAll
  omega
theorem upto_len {M:MDat}{d:Nat}(hc:chk M.c=0):∀ (T:Nat),(So.upto M d T).log.length≤5*T∧(So.upto M d T).evs.length≤5*T
 | 0=>by simp [So.upto,So.start]
 | T+1=>by
  have ih:=upto_len (d:=d) hc T
  have c2:=(right_of hc).c2
  have h1:=service_len M d (So.upto M d T) T
  have h2:=worksAll_len M d T M.c.cores.toNat 0 (So.service M d (So.upto M d T) T)
  show (So.cycle M d (So.upto M d T) (T:Nat)).log.length≤_∧(So.cycle M d (So.upto M d T) (T:Nat)).evs.length≤_
  unfold So.cycle
  omega
theorem SoOk.tight {M:MDat}{d:Nat}{S:So}{B B':Nat}(h:SoOk M d S B)(h1:S.log.length≤B')(h2:S.evs.length≤B'):SoOk M d S B':=
 ⟨h.hl,h.nl,h.fl,h.bl,h.log,h.nx,h.hw,h.w1,h.qu,h.nd,h.fr,h.bg,h1,h2⟩
theorem SoOk.upto5 {M:MDat}{d:Nat}(hc:chk M.c=0)(T:Nat)(hT:T≤10000):SoOk M d (So.upto M d T) (5*T):=
 (SoOk.upto hc T hT).tight (upto_len hc T).1 (upto_len hc T).2
theorem laidR (M:RDat)(hz:chk M.c=0)(ho:∀ i,opsOk (M.pr i)=true):Laid M.toM (cnOf M.c) (opsR M) (ownR M) (shR M):=by
 have hN:=nm_of hz
 have hp:=hN.pv
 have hs:=hN.sn
 have e1:(cnOf M.c).nc=M.c.cores.toNat:=rfl
 have e2:(cnOf M.c).nd=M.c.domains.toNat:=rfl
 have e3:(cnOf M.c).pv=M.c.priv.toNat:=rfl
 have e4:(cnOf M.c).sn=M.c.shared.toNat:=rfl
 refine ⟨fun d k hd hk=>?_,fun d k _ _=>?_,fun d a hd ha=>?_,fun d a hd h1 h2=>?_⟩
 ·
  unfold opsR
  rw [if_pos ⟨by omega,by omega⟩]
  rfl
 ·
  unfold opsR
  split
  · exact (opsOk_kin (ho _)).2
  · exact fun o ho=>by simp at ho
 ·
  unfold firstF0
  show _=if (a:Int)<M.c.priv then (M.ow d).getD (a:Int).toNat 0 else _
  rw [if_pos (by omega),Int.toNat_natCast]
  rfl
 ·
  unfold firstF0
  show _=if (a:Int)<M.c.priv then _ else M.cm.getD ((a:Int)-M.c.priv).toNat 0
  rw [if_neg (by omega),show ((a:Int)-M.c.priv).toNat=a-(cnOf M.c).pv by omega]
  rfl
theorem linksR {M:RDat}{m:Mh}(h:PairD M m)(hz:chk M.c=0)(hT:M.T≤10000):Links M.toM (cnOf M.c) M.T.toNat m:=by
 have:=links_runs (M:=M.toM) (nm_of hz) rfl (links_start (laidR M hz h.ops) ⟨false,0,0⟩ rfl) M.T.toNat (by omega)
 rw [h.run]
 exact this
theorem traceR {M:RDat}{m:Mh}(h:PairD M m)(hz:chk M.c=0)(hT:M.T≤10000)(d:Nat)(hd:(d:Int)<M.c.domains):m.tr d=(So.upto M.toM d M.T.toNat).evs:=
 ((linksR h hz hT).core d (by have:=(nm_of hz).nd;omega)).evs
end Go.Proofs.YtehheaedbnfidaaGreat
